/-
  PROVED: casebooklaw6.BookPlays answers true and leaves its argument as it was, for any steps: the row's own reading and nothing else is assumed.
-/
import Derived.Test.YtkieifkbkmdgdaaBookQ
import Derived.Test.YtkieifkbkmdgdaaBookArgs
import Derived.Test.YtkieifkbkmdgdaaItemRC
import Derived.Test.YtkieifkbkmdgdaaHeld
namespace Go.Proofs.Ytkieifkbkmdgdaa.BookPlays
open Go.ChangeShapes Go.WideShapes Go.ChangeAt Go.RowKit

theorem start {n : Nat} {w0 w : World} {B : Nat} (h : BkO n w0 B [] w) : Pl n w0 B w.heap.size [] [] (w.alloc (.cells #[.slice none 0 0, .slice none 0 0] 28 (0, 0))) :=
  ⟨h.on ((Below.refl _ _).alloc (Nat.le_refl _) _), _, _, heap_alloc_new _ _, h.size, World.ownsRow_nil _ _ _ _, World.ownsRow_nil _ _ _ _, .inl rfl⟩
theorem seq_k {P : Program} {x y : Code} {Q : Exit → Act → World → Prop} {a : Act} {w : World} (h : ∀ K : Act → World → Prop, (∀ a w, y.wp P Q a w → K a w) → x.wp P (Exit.then K Q) a w) : (Code.seq x y).wp P Q a w :=
  wp_seq (h _ fun _ _ h => h)

/-- Both tables stand, and the step's block. -/
def St (n : Nat) (w0 : World) (B R p : Nat) (kd key v : Int) (L M : List (Int × Int)) (u : World) : Prop :=
  Pl n w0 B R L M u ∧ u.heap[p]? = some (.cells #[.int .i64 kd, .int .i64 key, .int .i64 v] 30 (0, 0))
section
variable {n : Nat} {w0 : World} {B R p : Nat} {kd key v : Int} {L M : List (Int × Int)} {u : World}
theorem St.on {u' : World} (h : St n w0 B R p kd key v L M u) (hb : Below u.heap.size u u') : St n w0 B R p kd key v L M u' := ⟨h.1.on hb, (Keeps.of hb) _ _ h.2⟩
theorem St.c0 (h : St n w0 B R p kd key v L M u) : u.cell? ⟨p, 0, none⟩ = some (.int .i64 kd) := by simp [World.cell?, h.2]
theorem St.c1 (h : St n w0 B R p kd key v L M u) : u.cell? ⟨p, 1, none⟩ = some (.int .i64 key) := by simp [World.cell?, h.2]
theorem St.c2 (h : St n w0 B R p kd key v L M u) : u.cell? ⟨p, 2, none⟩ = some (.int .i64 v) := by simp [World.cell?, h.2]
theorem St.keep {L' M' : List (Int × Int)} {u' : World} (h : St n w0 B R p kd key v L M u) (h' : Pl n w0 B R L' M' u' ∧ Keeps u u') : St n w0 B R p kd key v L' M' u' := ⟨h'.1, h'.2 _ _ h.2⟩
end
/-- A list is told, and all stands. -/
def TellsS (X : List Int) (q : Nat) (n : Nat) (w0 : World) (B R p : Nat) (kd key v : Int) (L M : List (Int × Int)) (u : World) (e : Ending) (u' : World) : Prop :=
  ∃ ao cap, e = .returned (.slice ao q cap) ∧ Ints u' u'.heap.size (.slice ao q cap) X ∧ St n w0 B R p kd key v L M u' ∧ Below u.heap.size u u'
theorem St.tells {n : Nat} {w0 : World} {B R p : Nat} {kd key v : Int} {L M : List (Int × Int)} {u : World} {X Y : List Int} {q : Nat} {e : Ending} {u' : World} (h : St n w0 B R p kd key v L M u) (hX : X = Y) (hq : q = X.length) (ht : TellsP Y n w0 B R L M u e u') : TellsS X q n w0 B R p kd key v L M u e u' := by
  subst hX hq
  obtain ⟨ao, cap, he, hi, hb, hbel⟩ := ht
  exact ⟨ao, cap, he, hi, h.on hbel, hbel⟩

theorem upL_len (k : Int) (L : List (Int × Int)) : (upL k L).length ≤ L.length := by
  unfold upL
  simp only [List.length_map]
  exact List.length_filter_le _ _
theorem downL_len (k : Int) (L : List (Int × Int)) : (downL k L).length ≤ L.length := by
  unfold downL
  simp only [List.length_map, List.length_reverse]
  exact List.length_filter_le _ _

set_option maxRecDepth 100000 in
set_option maxHeartbeats 8000000 in
theorem main (l : List StepV) (len : Nat) (a : Option Addr) (c : Nat) (w : World) (hI : Steps w w.heap.size (.slice a len c) l) :
    Calls Try.prog 3 #[.slice a len c] w fun e w' => e = .returned (.bool true) ∧ Below w.heap.size w w' := by
  have HN := Lib.hid (new_o w w w.heap.size (Below.refl _ _) (Nat.le_refl _))
  have HT := Lib.hid (fun u => told6_any u)
  obtain ⟨_, _, hv, hlen, hfits, hcells⟩ := hI
  cases hv
  obtain ⟨len, hl⟩ : ∃ len, len = l.length := ⟨_, rfl⟩
  rw [← hl]
  have HL := Lib.hid hl
  have HF := Lib.hid hfits
  have HC := Lib.hid hcells
  have HX : Hid (∀ a1 c1 a2 c2 n1 n2 (X : List Int) u, X.length ≤ 1000 → Ints u u.heap.size (.slice a1 n1 c1) X → Ints u u.heap.size (.slice a2 n2 c2) X → Calls Try.prog 14 #[.slice a1 n1 c1, .slice a2 n2 c2] u fun e w' => e = .returned (.bool true) ∧ Below u.heap.size u w') := by
    intro a1 c1 a2 c2 n1 n2 X u hX h1 h2
    have h := refints_any _ _ X X u.heap.size u h1 h2 (Nat.le_refl _) (by omega)
    rwa [decide_eq_true rfl] at h
  clear hfits hcells hl hlen
  go_enter Try.func3, Try.ntmps3
  go_wp2_with fail
  refine HN.out.mono ?_
  rintro e w1 ⟨rfl, hb⟩
  have B1 := Lib.hid (start hb)
  clear hb
  go_wp2_with fail
  generalize hR : w1.heap.size = R at B1 ⊢
  have HLOW : Hid (∀ x ∈ ([] : List (Int × Int)), -9223372036854775808 ≤ x.1) := fun x hx => absurd hx (by simp)
  clear HN hR
  go_loopw [5] (fun vi wr => ∃ (k : Nat) (M : List (Int × Int)), k ≤ len ∧ k ≤ 100 ∧ vi = .int .i64 k ∧ M.length ≤ k ∧ Hid (∀ x ∈ M, -9223372036854775808 ≤ x.1) ∧ Pl w.heap.size w w.heap.size R M M wr) (fun vi _ => 200 - (intOf vi).toNat)
  case atStart => exact ⟨0, [], by omega, by omega, rfl, by simp, HLOW, B1.out⟩
  case round =>
    obtain ⟨k, M, hk, hk100, rfl, hM, HLW, hb⟩ := hrel
    have HB := Lib.hid hb
    clear hb B1 HLOW
    by_cases hlt : k < len
    · by_cases h100 : (k : Int) < 100
      · have hkl : k < l.length := by rw [← HL.out]; exact hlt
        obtain ⟨b, off, rfl, hbw, hc⟩ := HC.out (List.length_pos_iff.1 (Nat.lt_of_le_of_lt (Nat.zero_le k) hkl))
        obtain ⟨hf0, hf1, hf2⟩ := HF.out _ (List.getElem_mem hkl)
        have hco := (hc k hkl).keep HB.out.bel hbw
        obtain ⟨⟨kd, key, v⟩, ho⟩ : ∃ o, o = l[k] := ⟨_, rfl⟩
        rw [← ho] at hco hf0 hf1 hf2
        obtain ⟨q0, q1, q2⟩ := hco
        dsimp only at q0 q1 q2 hf0 hf1 hf2
        have k0 : (0 : Int) ≤ (k : Int) := by omega
        have k1 : (k : Int) < (len : Int) := by omega
        have HKY : Hid (-9223372036854775808 ≤ key) := hf1.1
        clear ho hc hf0 hf1 hf2 HT
        go_upto_region 8 with fail
        go_cut [6] (fun s6 wc => ∃ p, s6 = .pointer (some ⟨p, 0, none⟩) ∧ Hid (St w.heap.size w w.heap.size R p kd key v M M wc))
        case first =>
          go_wp2_with fail
          go_meet
          exact ⟨_, rfl, HB.out.on ((Below.refl _ _).alloc (Nat.le_refl _) _), heap_alloc_new _ _⟩
        case rest =>
          obtain ⟨p, rfl, HS⟩ := hcut
          clear q0 q1 q2 HB hbw
          rename_i K hK
          refine hK _ _ ?_
          clear hK K
          refine seq_k (fun K hK => ?_)
          go_cut [5] (fun s5 wd => s5 = .int .i64 k ∧ ∃ M' : List (Int × Int), M'.length ≤ k + 1 ∧ Hid (∀ x ∈ M', -9223372036854775808 ≤ x.1) ∧ Hid (Pl w.heap.size w w.heap.size R M' M' wd))
          case first => as_aux_lemma =>
            clear hK K
            have z0 := HS.out.c0
            have HR := Lib.hid HS.out.1.low
            have hM5 : M.length ≤ 5000 := by omega
            have KM := Lib.hid hM
            by_cases e0 : kd = 0
            · subst e0
              obtain ⟨y, hy⟩ : ∃ y, y = gv (getL key M) := ⟨_, rfl⟩
              obtain ⟨s, hs⟩ : ∃ s, s = (getL key M).isSome := ⟨_, rfl⟩
              obtain ⟨D, hD⟩ : ∃ D, D = putL key v M := ⟨_, rfl⟩
              have D1 : Hid (∀ u, St w.heap.size w w.heap.size R p 0 key v M M u → Calls Try.prog 8 #[.pointer (some ⟨w.heap.size, 0, none⟩), .int .i64 key, .int .i64 v] u fun e w' => e = .returned (.tuple #[.int .i64 y, .bool s]) ∧ St w.heap.size w w.heap.size R p 0 key v D M w') := by
                intro u hu
                rw [hy, hs, hD]
                exact (pl_put1 hu.1 hM5 key v).mono fun e w' ⟨he, hb⟩ => ⟨he, hu.keep hb⟩
              have D2 : Hid (∀ u, St w.heap.size w w.heap.size R p 0 key v D M u → Calls Try.prog 9 #[.pointer (some ⟨R, 0, none⟩), .int .i64 key, .int .i64 v] u fun e w' => e = .returned (.tuple #[.int .i64 y, .bool s]) ∧ St w.heap.size w w.heap.size R p 0 key v D D w') := by
                intro u hu
                have h := pl_put2 hu.1 HR.out hM5 key v
                rw [← hy, ← hs, ← hD] at h
                exact h.mono fun e w' ⟨he, hb⟩ => ⟨he, hu.keep hb⟩
              have HD : Hid (D.length ≤ k + 1 ∧ Hid (∀ x ∈ D, -9223372036854775808 ≤ x.1)) := by
                refine ⟨by rw [hD]; have := putL_len key v M; omega, fun x hx => ?_⟩
                rw [hD] at hx
                rcases putL_mem hx with rfl | hx
                · exact HKY.out
                · exact HLW.out x hx
              have z1 := HS.out.c1
              have z2 := HS.out.c2
              clear hy hs hD HLW KM HKY HR HX hM hM5
              go_wp2_with fail
              refine (D1.out _ HS.out).mono ?_
              rintro e w3 ⟨rfl, hb⟩
              have S3 := Lib.hid hb
              have z3 := hb.c1
              have z4 := hb.c2
              clear hb z0 z1 z2 HS D1
              go_wp2_with fail
              refine (D2.out _ S3.out).mono ?_
              rintro e w4 ⟨rfl, hb⟩
              have S4 := Lib.hid hb.1
              clear hb z3 z4 S3 D2
              cases s
              all_goals
                go_wp2
                go_meet
              all_goals exact ⟨rfl, D, HD.out.1, HD.out.2, S4.out⟩
            · have b0 : (kd == 0) = false := beq_eq_false_iff_ne.2 e0
              by_cases e1 : kd = 1
              · subst e1
                obtain ⟨s, hs⟩ : ∃ s, s = (getL key M).isSome := ⟨_, rfl⟩
                obtain ⟨D, hD⟩ : ∃ D, D = delL key M := ⟨_, rfl⟩
                have hDl : D.length ≤ M.length := by rw [hD]; exact delL_len _ _
                have D1 : Hid (∀ u N, N.length ≤ 5000 → St w.heap.size w w.heap.size R p 1 key v M N u → Calls Try.prog 10 #[.pointer (some ⟨w.heap.size, 0, none⟩), .int .i64 key] u fun e w' => e = .returned (.bool s) ∧ St w.heap.size w w.heap.size R p 1 key v D N w') := by
                  intro u N _ hu
                  rw [hs, hD]
                  exact (pl_del1 hu.1 hM5 key).mono fun e w' ⟨he, hb⟩ => ⟨he, hu.keep hb⟩
                have D2 : Hid (∀ u N, N.length ≤ 5000 → St w.heap.size w w.heap.size R p 1 key v N M u → Calls Try.prog 11 #[.pointer (some ⟨R, 0, none⟩), .int .i64 key] u fun e w' => e = .returned (.bool s) ∧ St w.heap.size w w.heap.size R p 1 key v N D w') := by
                  intro u N _ hu
                  rw [hs, hD]
                  exact (pl_del2 hu.1 HR.out hM5 key).mono fun e w' ⟨he, hb⟩ => ⟨he, hu.keep hb⟩
                have KM5 := Lib.hid hM5
                have KD5 : Hid (D.length ≤ 5000) := by show _ ≤ _; omega
                have HD : Hid (D.length ≤ k + 1 ∧ Hid (∀ x ∈ D, -9223372036854775808 ≤ x.1)) := by
                  refine ⟨by omega, fun x hx => ?_⟩
                  rw [hD] at hx
                  exact HLW.out x (delL_mem.1 hx).1
                have z1 := HS.out.c1
                clear hs hD HLW KM HKY HR HX hM hM5 hDl e0 b0
                go_upto_region 18 with fail
                go_region_held3 (fun u => u.cell? ⟨p, 1, none⟩ = some (.int .i64 key)) (first | assumption | go_keep)
                  (first
                    | (go_at_call 10; (first | (with_reducible refine (D1.out _ D KD5.out (HT2.out.on (by go_grown))).mono ?_) | (with_reducible refine (D1.out _ M KM5.out (HS.out.on (by go_grown))).mono ?_)); rintro e u ⟨rfl, hb⟩; have z3 := hb.c1; have HT1 := Lib.hid hb; clear hb)
                    | (go_at_call 11; (first | (with_reducible refine (D2.out _ D KD5.out (HT1.out.on (by go_grown))).mono ?_) | (with_reducible refine (D2.out _ M KM5.out (HS.out.on (by go_grown))).mono ?_)); rintro e u ⟨rfl, hb⟩; have z4 := hb.c1; have HT2 := Lib.hid hb; clear hb))
                all_goals
                  first
                    | (have S4 : Hid (Pl w.heap.size w w.heap.size R D D _) := Lib.hid HT2.out.1; clear HT2)
                    | skip
                all_goals
                  clear D1 D2 KM5 KD5
                  go_wp2
                  go_meet
                all_goals exact ⟨rfl, D, HD.out.1, HD.out.2, S4.out⟩
              · have b1 : (kd == 1) = false := beq_eq_false_iff_ne.2 e1
                have HD : Hid (M.length ≤ k + 1 ∧ Hid (∀ x ∈ M, -9223372036854775808 ≤ x.1)) := ⟨by omega, HLW⟩
                by_cases e2 : kd = 2
                · subst e2
                  obtain ⟨y, hy⟩ : ∃ y, y = gv (getL key M) := ⟨_, rfl⟩
                  obtain ⟨s, hs⟩ : ∃ s, s = (getL key M).isSome := ⟨_, rfl⟩
                  have D1 : Hid (∀ u, St w.heap.size w w.heap.size R p 2 key v M M u → Calls Try.prog 12 #[.pointer (some ⟨w.heap.size, 0, none⟩), .int .i64 key] u fun e w' => e = .returned (.tuple #[.int .i64 y, .bool s]) ∧ St w.heap.size w w.heap.size R p 2 key v M M w') := by
                    intro u hu
                    rw [hy, hs]
                    exact (pl_get1 hu.1 key).mono fun e w' ⟨he, hb⟩ => ⟨he, hu.keep hb⟩
                  have D2 : Hid (∀ u, St w.heap.size w w.heap.size R p 2 key v M M u → Calls Try.prog 13 #[.pointer (some ⟨R, 0, none⟩), .int .i64 key] u fun e w' => e = .returned (.tuple #[.int .i64 y, .bool s]) ∧ St w.heap.size w w.heap.size R p 2 key v M M w') := by
                    intro u hu
                    rw [hy, hs]
                    exact (pl_get2 hu.1 HR.out hM5 key).mono fun e w' ⟨he, hb⟩ => ⟨he, hu.keep hb⟩
                  have z1 := HS.out.c1
                  clear hy hs HLW KM HKY HR HX hM hM5 e0 b0 e1 b1
                  go_wp2_with fail
                  refine (D1.out _ HS.out).mono ?_
                  rintro e w3 ⟨rfl, hb⟩
                  have S3 := Lib.hid hb
                  have z3 := hb.c1
                  clear hb z0 z1 HS D1
                  go_wp2_with fail
                  refine (D2.out _ S3.out).mono ?_
                  rintro e w4 ⟨rfl, hb⟩
                  have S4 := Lib.hid hb.1
                  clear hb z3 S3 D2
                  cases s
                  all_goals
                    go_wp2
                    go_meet
                  all_goals exact ⟨rfl, M, HD.out.1, HD.out.2, S4.out⟩
                · have b2 : (kd == 2) = false := beq_eq_false_iff_ne.2 e2
                  by_cases e3 : kd = 3
                  · subst e3
                    obtain ⟨X, hX⟩ : ∃ X, X = (upL key M).take v.toNat := ⟨_, rfl⟩
                    obtain ⟨q, hq⟩ : ∃ q, q = X.length := ⟨_, rfl⟩
                    have KX : Hid (X.length ≤ 1000) := by
                      show _ ≤ _
                      have h1 : X.length ≤ (upL key M).length := by rw [hX]; exact (List.take_sublist _ _).length_le
                      have h2 : (upL key M).length ≤ M.length := upL_len key M
                      omega
                    have D1 : Hid (∀ u, St w.heap.size w w.heap.size R p 3 key v M M u → Calls Try.prog 15 #[.pointer (some ⟨w.heap.size, 0, none⟩), .int .i64 key, .int .i64 v] u (TellsS X q w.heap.size w w.heap.size R p 3 key v M M u)) := fun u hu =>
                      (pl_from1 hu.1 hM5 key v).mono fun e w' ht => hu.tells hX hq ht
                    have D2 : Hid (∀ u, St w.heap.size w w.heap.size R p 3 key v M M u → Calls Try.prog 16 #[.pointer (some ⟨R, 0, none⟩), .int .i64 key, .int .i64 v] u (TellsS X q w.heap.size w w.heap.size R p 3 key v M M u)) := fun u hu =>
                      (pl_from2 hu.1 HR.out hM5 key v).mono fun e w' ht => hu.tells hX hq ht
                    have z1 := HS.out.c1
                    have z2 := HS.out.c2
                    clear hX hq HLW KM HKY HR hM hM5 e0 b0 e1 b1 e2 b2
                    go_upto_region 22 with fail
                    go_region_held3 (fun u => u.cell? ⟨p, 1, none⟩ = some (.int .i64 key) ∧ u.cell? ⟨p, 2, none⟩ = some (.int .i64 v)) (first | assumption | go_keep)
                      (first
                        | (go_at_call 15
                           (with_reducible refine (D1.out _ (HS.out.on (by go_grown))).mono ?_)
                           rintro e u4 ⟨a1, c1, rfl, hi, hs, hbel⟩
                           have I1 := Lib.hid hi
                           have S4 := Lib.hid hs
                           have z3 := hs.c1
                           have z4 := hs.c2
                           clear hi hs hbel)
                        | (go_at_call 16
                           (with_reducible refine (D2.out _ (S4.out.on (by go_grown))).mono ?_)
                           rintro e u5 ⟨a2, c2, rfl, hi, hs, hbel⟩
                           have I2 := Lib.hid hi
                           have BB := Lib.hid ((show Below u4.heap.size u4 _ by go_grown).trans hbel)
                           have J1 := Lib.hid ((I1.out.keep BB.out).mono BB.out.size)
                           have S5 := Lib.hid hs
                           have z5 := hs.c1
                           have z6 := hs.c2
                           clear hi hs hbel)
                        | (go_at_call 14
                           (with_reducible refine (HX.out _ _ _ _ _ _ _ _ KX.out J1.out I2.out).mono ?_)
                           rintro e u6 ⟨rfl, hb⟩
                           have S6 := Lib.hid (S5.out.on hb)
                           have z7 := S6.out.c1
                           have z8 := S6.out.c2
                           clear hb))
                    all_goals
                      clear D1 D2 I1 S4 I2 BB J1 S5 HX KX
                      go_wp2
                      go_meet
                    all_goals exact ⟨rfl, M, HD.out.1, HD.out.2, Lib.hid S6.out.1⟩
                  · have b3 : (kd == 3) = false := beq_eq_false_iff_ne.2 e3
                    obtain ⟨X, hX⟩ : ∃ X, X = (downL key M).take v.toNat := ⟨_, rfl⟩
                    obtain ⟨q, hq⟩ : ∃ q, q = X.length := ⟨_, rfl⟩
                    have KX : Hid (X.length ≤ 1000) := by
                      show _ ≤ _
                      have h1 : X.length ≤ (downL key M).length := by rw [hX]; exact (List.take_sublist _ _).length_le
                      have h2 : (downL key M).length ≤ M.length := downL_len key M
                      omega
                    have D1 : Hid (∀ u, St w.heap.size w w.heap.size R p kd key v M M u → Calls Try.prog 17 #[.pointer (some ⟨w.heap.size, 0, none⟩), .int .i64 key, .int .i64 v] u (TellsS X q w.heap.size w w.heap.size R p kd key v M M u)) := fun u hu =>
                      (pl_back1 hu.1 hM5 key v).mono fun e w' ht => hu.tells hX hq ht
                    have D2 : Hid (∀ u, St w.heap.size w w.heap.size R p kd key v M M u → Calls Try.prog 18 #[.pointer (some ⟨R, 0, none⟩), .int .i64 key, .int .i64 v] u (TellsS X q w.heap.size w w.heap.size R p kd key v M M u)) := fun u hu =>
                      (pl_back2 hu.1 hM5 key v).mono fun e w' ht => hu.tells hX hq ht
                    have z1 := HS.out.c1
                    have z2 := HS.out.c2
                    clear hX hq HLW KM HKY HR hM hM5 
                    go_upto_region 10 with fail
                    go_region_held3 (fun u => u.cell? ⟨p, 1, none⟩ = some (.int .i64 key) ∧ u.cell? ⟨p, 2, none⟩ = some (.int .i64 v)) (first | assumption | go_keep)
                      (first
                        | (go_at_call 17
                           (with_reducible refine (D1.out _ (HS.out.on (by go_grown))).mono ?_)
                           rintro e u4 ⟨a1, c1, rfl, hi, hs, hbel⟩
                           have I1 := Lib.hid hi
                           have S4 := Lib.hid hs
                           have z3 := hs.c1
                           have z4 := hs.c2
                           clear hi hs hbel)
                        | (go_at_call 18
                           (with_reducible refine (D2.out _ (S4.out.on (by go_grown))).mono ?_)
                           rintro e u5 ⟨a2, c2, rfl, hi, hs, hbel⟩
                           have I2 := Lib.hid hi
                           have BB := Lib.hid ((show Below u4.heap.size u4 _ by go_grown).trans hbel)
                           have J1 := Lib.hid ((I1.out.keep BB.out).mono BB.out.size)
                           have S5 := Lib.hid hs
                           have z5 := hs.c1
                           have z6 := hs.c2
                           clear hi hs hbel)
                        | (go_at_call 14
                           (with_reducible refine (HX.out _ _ _ _ _ _ _ _ KX.out J1.out I2.out).mono ?_)
                           rintro e u6 ⟨rfl, hb⟩
                           have S6 := Lib.hid (S5.out.on hb)
                           have z7 := S6.out.c1
                           have z8 := S6.out.c2
                           clear hb))
                    all_goals
                      clear D1 D2 I1 S4 I2 BB J1 S5 HX KX
                      go_wp2
                      go_meet
                    all_goals exact ⟨rfl, M, HD.out.1, HD.out.2, Lib.hid S6.out.1⟩
          case rest => as_aux_lemma =>
            clear HS HKY HLW
            obtain ⟨rfl, N, hN, HLN, HP⟩ := hcut
            obtain ⟨X, hX⟩ : ∃ X, X = keysL N := ⟨_, rfl⟩
            obtain ⟨q, hq⟩ : ∃ q, q = N.length := ⟨_, rfl⟩
            have hXq : X.length = q := by rw [hX, hq]; simp [keysL]
            have KX : Hid (X.length ≤ 1000) := by show _ ≤ _; omega
            obtain ⟨h0, hh⟩ : ∃ h0, h0 = X.headD 0 := ⟨_, rfl⟩
            obtain ⟨s, hs⟩ : ∃ s, s = !X.isEmpty := ⟨_, rfl⟩
            have HXE := Lib.hid hX
            have L1 : Hid (∀ u, Pl w.heap.size w w.heap.size R N N u → Calls Try.prog 19 #[.pointer (some ⟨w.heap.size, 0, none⟩)] u fun e w' => e = .returned (.tuple #[.int .i64 h0, .bool s]) ∧ Pl w.heap.size w w.heap.size R N N w' ∧ Below u.heap.size u w') := by
              intro u hu
              rw [hh, hs, hX]
              exact pl_least hu (by omega) HLN.out
            have L2 : Hid (∀ u, Pl w.heap.size w w.heap.size R N N u → Calls Try.prog 20 #[.pointer (some ⟨w.heap.size, 0, none⟩)] u fun e w' => e = .returned (.int .i64 q) ∧ u = w') := by
              intro u hu
              rw [hq]
              exact len_o hu.1
            have L3 : Hid (∀ u, Pl w.heap.size w w.heap.size R N N u → Calls Try.prog 21 #[.pointer (some ⟨w.heap.size, 0, none⟩)] u fun e w' => ∃ ao cap, e = .returned (.slice ao q cap) ∧ Ints w' w'.heap.size (.slice ao q cap) X ∧ Pl w.heap.size w w.heap.size R N N w' ∧ Below u.heap.size u w') := by
              intro u hu
              have h := pl_keys hu (by omega) HLN.out
              unfold TellsP at h
              rwa [← hX, hXq] at h
            clear hX
            by_cases hq0 : 0 < q
            · have dq : decide (0 < q) = true := by simp; omega
              have dq2 : 0 < q := by omega
              have hs2 : s = true := by
                rw [hs]
                cases X with
                | nil => simp at hXq; omega
                | cons x X' => rfl
              have hh2 : h0 = X.getD 0 0 := by
                rw [hh]
                cases X with
                | nil => rfl
                | cons x X' => rfl
              subst hs2
              have HH := Lib.hid hh2
              have HQ := Lib.hid hq
              clear hh hs hq hq0 hh2
              go_wp2_with fail
              refine (L1.out _ HP.out).mono ?_
              rintro e w5 ⟨rfl, hb, _⟩
              have S5 := Lib.hid hb
              obtain ⟨vk, vv, r1, _, r3, _, _⟩ := hb.2
              obtain ⟨ak, ck, rfl, hck, _⟩ := row_of r3
              rw [← HQ.out] at r1 r3 hck
              rw [← HXE.out] at r3
              obtain ⟨g, rfl, _, hgl, _, hcell⟩ := row_at r3 dq2
              have CR : Hid (∀ u, Below w5.heap.size w5 u → u.cell? ⟨R, 0, none⟩ = some (.slice (some ⟨g, 0, none⟩) q ck) ∧ u.cell? ⟨g, 0, none⟩ = some (.int .i64 h0)) := fun u hu => ⟨((ref_cells r1).1 u hu).1, by rw [HH.out, ← (hcell 0 dq2).1]; exact hu.cell (p := ⟨g, 0, none⟩) hgl⟩
              have IK := Lib.hid (show Ints w5 w5.heap.size _ X from ints_own r3 (Nat.le_refl _))
              obtain ⟨x1, x2⟩ := CR.out w5 (Below.refl _ _)
              clear hb r1 r3 hcell hgl HP L1
              go_upto_region 29 with fail
              refine wp_region_held_drew (S := fun u => u.cell? ⟨R, 0, none⟩ = some (.slice (some ⟨g, 0, none⟩) q ck) ∧ u.cell? ⟨g, 0, none⟩ = some (.int .i64 h0)) (by kernel_rfl) (CR.out _ (by go_grown)) (fun hHeld => ?_)
              first
                | (refine held_take 0 136 (v := ?_) rfl rfl (by kernel_rfl) (by kernel_rfl) (by kernel_rfl) (fun _ _ _ h => h) (by assumption) (by rfl) ?_ ?_; rotate_left; (focus (intro w hSw; (try dsimp only at hSw); go_simp <;> with_reducible rfl)))
                | refine held_pass 0 136 rfl rfl (by kernel_rfl) (by kernel_rfl) (by kernel_rfl) (fun _ _ _ h => h) (by assumption) (by rfl) ?_
              simp only [Act.put, List.setIfInBounds_toArray, List.set_cons_zero, List.set_cons_succ]
              first
                | (refine held_take 2 138 (v := ?_) rfl rfl (by kernel_rfl) (by kernel_rfl) (by kernel_rfl) (fun _ _ _ h => h) (by assumption) (by rfl) ?_ ?_; rotate_left; (focus (intro w hSw; (try dsimp only at hSw); go_simp <;> with_reducible rfl)))
                | refine held_pass 2 138 rfl rfl (by kernel_rfl) (by kernel_rfl) (by kernel_rfl) (fun _ _ _ h => h) (by assumption) (by rfl) ?_
              simp only [Act.put, List.setIfInBounds_toArray, List.set_cons_zero, List.set_cons_succ]
              first
                | (refine held_take 3 139 (v := ?_) rfl rfl (by kernel_rfl) (by kernel_rfl) (by kernel_rfl) (fun _ _ _ h => h) (by assumption) (by rfl) ?_ ?_; rotate_left; (focus (intro w hSw; (try dsimp only at hSw); go_simp <;> with_reducible rfl)))
                | refine held_pass 3 139 rfl rfl (by kernel_rfl) (by kernel_rfl) (by kernel_rfl) (fun _ _ _ h => h) (by assumption) (by rfl) ?_
              simp only [Act.put, List.setIfInBounds_toArray, List.set_cons_zero, List.set_cons_succ]
              first
                | (refine held_take 4 140 (v := ?_) rfl rfl (by kernel_rfl) (by kernel_rfl) (by kernel_rfl) (fun _ _ _ h => h) (by assumption) (by rfl) ?_ ?_; rotate_left; (focus (intro w hSw; (try dsimp only at hSw); go_simp <;> with_reducible rfl)))
                | refine held_pass 4 140 rfl rfl (by kernel_rfl) (by kernel_rfl) (by kernel_rfl) (fun _ _ _ h => h) (by assumption) (by rfl) ?_
              simp only [Act.put, List.setIfInBounds_toArray, List.set_cons_zero, List.set_cons_succ]
              first
                | (refine held_take 5 141 (v := ?_) rfl rfl (by kernel_rfl) (by kernel_rfl) (by kernel_rfl) (fun _ _ _ h => h) (by assumption) (by rfl) ?_ ?_; rotate_left; (focus (intro w hSw; (try dsimp only at hSw); go_simp <;> with_reducible rfl)))
                | refine held_pass 5 141 rfl rfl (by kernel_rfl) (by kernel_rfl) (by kernel_rfl) (fun _ _ _ h => h) (by assumption) (by rfl) ?_
              simp only [Act.put, List.setIfInBounds_toArray, List.set_cons_zero, List.set_cons_succ]
              first
                | (refine held_take 6 142 (v := ?_) rfl rfl (by kernel_rfl) (by kernel_rfl) (by kernel_rfl) (fun _ _ _ h => h) (by assumption) (by rfl) ?_ ?_; rotate_left; (focus (intro w hSw; (try dsimp only at hSw); go_simp <;> with_reducible rfl)))
                | refine held_pass 6 142 rfl rfl (by kernel_rfl) (by kernel_rfl) (by kernel_rfl) (fun _ _ _ h => h) (by assumption) (by rfl) ?_
              simp only [Act.put, List.setIfInBounds_toArray, List.set_cons_zero, List.set_cons_succ]
              refine held_call 1 137 rfl rfl (by kernel_rfl) (by rfl) (fun K hK => ?_)
              simp only [Go.wp_at_succ, Go.wp_at_zero]
              go_simp
              go_at_call 20
              (with_reducible refine (L2.out _ (S5.out.on (by go_grown))).mono ?_)
              rintro e u3 ⟨rfl, rfl⟩
              first | (with_reducible refine hK.out _ _ ?_ (fun hHeld => ?_)) | (go_wp2_with fail; refine hK.out _ _ ?_ (fun hHeld => ?_))
              · exact hHeld
              clear hK K
              try simp only [Act.put, List.setIfInBounds_toArray, List.set_cons_zero, List.set_cons_succ]
              first
                | (refine held_take 7 143 (v := ?_) rfl rfl (by kernel_rfl) (by kernel_rfl) (by kernel_rfl) (fun _ _ _ h => h) (by assumption) (by rfl) ?_ ?_; rotate_left; (focus (intro w hSw; (try dsimp only at hSw); go_simp <;> with_reducible rfl)))
                | refine held_pass 7 143 rfl rfl (by kernel_rfl) (by kernel_rfl) (by kernel_rfl) (fun _ _ _ h => h) (by assumption) (by rfl) ?_
              simp only [Act.put, List.setIfInBounds_toArray, List.set_cons_zero, List.set_cons_succ]
              first
                | (refine held_take 8 144 (v := ?_) rfl rfl (by kernel_rfl) (by kernel_rfl) (by kernel_rfl) (fun _ _ _ h => h) (by assumption) (by rfl) ?_ ?_; rotate_left; (focus (intro w hSw; (try dsimp only at hSw); go_simp <;> with_reducible rfl)))
                | refine held_pass 8 144 rfl rfl (by kernel_rfl) (by kernel_rfl) (by kernel_rfl) (fun _ _ _ h => h) (by assumption) (by rfl) ?_
              simp only [Act.put, List.setIfInBounds_toArray, List.set_cons_zero, List.set_cons_succ]
              first
                | (refine held_take 9 145 (v := ?_) rfl rfl (by kernel_rfl) (by kernel_rfl) (by kernel_rfl) (fun _ _ _ h => h) (by assumption) (by rfl) ?_ ?_; rotate_left; (focus (intro w hSw; (try dsimp only at hSw); go_simp <;> with_reducible rfl)))
                | refine held_pass 9 145 rfl rfl (by kernel_rfl) (by kernel_rfl) (by kernel_rfl) (fun _ _ _ h => h) (by assumption) (by rfl) ?_
              simp only [Act.put, List.setIfInBounds_toArray, List.set_cons_zero, List.set_cons_succ]
              first
                | (refine held_take 11 147 (v := ?_) rfl rfl (by kernel_rfl) (by kernel_rfl) (by kernel_rfl) (fun _ _ _ h => h) (by assumption) (by rfl) ?_ ?_; rotate_left; (focus (intro w hSw; (try dsimp only at hSw); go_simp <;> with_reducible rfl)))
                | refine held_pass 11 147 rfl rfl (by kernel_rfl) (by kernel_rfl) (by kernel_rfl) (fun _ _ _ h => h) (by assumption) (by rfl) ?_
              simp only [Act.put, List.setIfInBounds_toArray, List.set_cons_zero, List.set_cons_succ]
              first
                | (refine held_take 12 148 (v := ?_) rfl rfl (by kernel_rfl) (by kernel_rfl) (by kernel_rfl) (fun _ _ _ h => h) (by assumption) (by rfl) ?_ ?_; rotate_left; (focus (intro w hSw; (try dsimp only at hSw); go_simp <;> with_reducible rfl)))
                | refine held_pass 12 148 rfl rfl (by kernel_rfl) (by kernel_rfl) (by kernel_rfl) (fun _ _ _ h => h) (by assumption) (by rfl) ?_
              simp only [Act.put, List.setIfInBounds_toArray, List.set_cons_zero, List.set_cons_succ]
              first
                | (refine held_take 13 149 (v := ?_) rfl rfl (by kernel_rfl) (by kernel_rfl) (by kernel_rfl) (fun _ _ _ h => h) (by assumption) (by rfl) ?_ ?_; rotate_left; (focus (intro w hSw; (try dsimp only at hSw); go_simp <;> with_reducible rfl)))
                | refine held_pass 13 149 rfl rfl (by kernel_rfl) (by kernel_rfl) (by kernel_rfl) (fun _ _ _ h => h) (by assumption) (by rfl) ?_
              simp only [Act.put, List.setIfInBounds_toArray, List.set_cons_zero, List.set_cons_succ]
              first
                | (refine held_take 14 150 (v := ?_) rfl rfl (by kernel_rfl) (by kernel_rfl) (by kernel_rfl) (fun _ _ _ h => h) (by assumption) (by rfl) ?_ ?_; rotate_left; (focus (intro w hSw; (try dsimp only at hSw); go_simp <;> with_reducible rfl)))
                | refine held_pass 14 150 rfl rfl (by kernel_rfl) (by kernel_rfl) (by kernel_rfl) (fun _ _ _ h => h) (by assumption) (by rfl) ?_
              simp only [Act.put, List.setIfInBounds_toArray, List.set_cons_zero, List.set_cons_succ]
              refine held_call 10 146 rfl rfl (by kernel_rfl) (by rfl) (fun K hK => ?_)
              simp only [Go.wp_at_succ, Go.wp_at_zero]
              go_simp
              go_at_call 21
              (with_reducible refine (L3.out _ (S5.out.on (by go_grown))).mono ?_)
              rintro e u4 ⟨a1, c1, rfl, hi, hb, hbel⟩
              have I1 := Lib.hid hi
              have S6 := Lib.hid hb
              have BB := Lib.hid ((show Below w5.heap.size w5 w5.drew by go_grown).trans hbel)
              have I2 := Lib.hid ((IK.out.keep BB.out).mono BB.out.size)
              have y1 := CR.out u4 BB.out
              clear hi hb hbel
              first | (with_reducible refine hK.out _ _ ?_ (fun hHeld => ?_)) | (go_wp2_with fail; refine hK.out _ _ ?_ (fun hHeld => ?_))
              · exact y1
              clear hK K
              try simp only [Act.put, List.setIfInBounds_toArray, List.set_cons_zero, List.set_cons_succ]
              refine held_call 15 151 rfl rfl (by kernel_rfl) (by rfl) (fun K hK => ?_)
              simp only [Go.wp_at_succ, Go.wp_at_zero]
              go_simp
              go_at_call 14
              (with_reducible refine (HX.out _ _ _ _ _ _ _ _ KX.out I1.out I2.out).mono ?_)
              rintro e u5 ⟨rfl, hb⟩
              have S7 := Lib.hid (S6.out.on hb)
              have BC := Lib.hid (BB.out.trans (hb.mono BB.out.size))
              have y3 := CR.out u5 BC.out
              clear hb
              first | (with_reducible refine hK.out _ _ ?_ (fun hHeld => ?_)) | (go_wp2_with fail; refine hK.out _ _ ?_ (fun hHeld => ?_))
              · exact y3
              clear hK K
              try simp only [Act.put, List.setIfInBounds_toArray, List.set_cons_zero, List.set_cons_succ]
              first
                | (refine held_take 16 152 (v := ?_) rfl rfl (by kernel_rfl) (by kernel_rfl) (by kernel_rfl) (fun _ _ _ h => h) (by assumption) (by rfl) ?_ ?_; rotate_left; (focus (intro w hSw; (try dsimp only at hSw); go_simp <;> with_reducible rfl)))
                | refine held_pass 16 152 rfl rfl (by kernel_rfl) (by kernel_rfl) (by kernel_rfl) (fun _ _ _ h => h) (by assumption) (by rfl) ?_
              simp only [Act.put, List.setIfInBounds_toArray, List.set_cons_zero, List.set_cons_succ]
              first
                | (refine held_take 17 153 (v := ?_) rfl rfl (by kernel_rfl) (by kernel_rfl) (by kernel_rfl) (fun _ _ _ h => h) (by assumption) (by rfl) ?_ ?_; rotate_left; (focus (intro w hSw; (try dsimp only at hSw); go_simp <;> with_reducible rfl)))
                | refine held_pass 17 153 rfl rfl (by kernel_rfl) (by kernel_rfl) (by kernel_rfl) (fun _ _ _ h => h) (by assumption) (by rfl) ?_
              simp only [Act.put, List.setIfInBounds_toArray, List.set_cons_zero, List.set_cons_succ]
              first
                | (refine held_take 18 154 (v := ?_) rfl rfl (by kernel_rfl) (by kernel_rfl) (by kernel_rfl) (fun _ _ _ h => h) (by assumption) (by rfl) ?_ ?_; rotate_left; (focus (intro w hSw; (try dsimp only at hSw); go_simp <;> with_reducible rfl)))
                | refine held_pass 18 154 rfl rfl (by kernel_rfl) (by kernel_rfl) (by kernel_rfl) (fun _ _ _ h => h) (by assumption) (by rfl) ?_
              simp only [Act.put, List.setIfInBounds_toArray, List.set_cons_zero, List.set_cons_succ]
              first
                | (refine held_take 19 155 (v := ?_) rfl rfl (by kernel_rfl) (by kernel_rfl) (by kernel_rfl) (fun _ _ _ h => h) (by assumption) (by rfl) ?_ ?_; rotate_left; (focus (intro w hSw; (try dsimp only at hSw); go_simp <;> with_reducible rfl)))
                | refine held_pass 19 155 rfl rfl (by kernel_rfl) (by kernel_rfl) (by kernel_rfl) (fun _ _ _ h => h) (by assumption) (by rfl) ?_
              simp only [Act.put, List.setIfInBounds_toArray, List.set_cons_zero, List.set_cons_succ]
              first
                | (refine held_take 20 156 (v := ?_) rfl rfl (by kernel_rfl) (by kernel_rfl) (by kernel_rfl) (fun _ _ _ h => h) (by assumption) (by rfl) ?_ ?_; rotate_left; (focus (intro w hSw; (try dsimp only at hSw); go_simp <;> with_reducible rfl)))
                | refine held_pass 20 156 rfl rfl (by kernel_rfl) (by kernel_rfl) (by kernel_rfl) (fun _ _ _ h => h) (by assumption) (by rfl) ?_
              simp only [Act.put, List.setIfInBounds_toArray, List.set_cons_zero, List.set_cons_succ]
              first
                | (refine held_take 21 157 (v := ?_) rfl rfl (by kernel_rfl) (by kernel_rfl) (by kernel_rfl) (fun _ _ _ h => h) (by assumption) (by rfl) ?_ ?_; rotate_left; (focus (intro w hSw; (try dsimp only at hSw); go_simp <;> with_reducible rfl)))
                | refine held_pass 21 157 rfl rfl (by kernel_rfl) (by kernel_rfl) (by kernel_rfl) (fun _ _ _ h => h) (by assumption) (by rfl) ?_
              simp only [Act.put, List.setIfInBounds_toArray, List.set_cons_zero, List.set_cons_succ]
              first
                | (refine held_take 22 158 (v := ?_) rfl rfl (by kernel_rfl) (by kernel_rfl) (by kernel_rfl) (fun _ _ _ h => h) (by assumption) (by rfl) ?_ ?_; rotate_left; (focus (intro w hSw; (try dsimp only at hSw); go_simp <;> with_reducible rfl)))
                | refine held_pass 22 158 rfl rfl (by kernel_rfl) (by kernel_rfl) (by kernel_rfl) (fun _ _ _ h => h) (by assumption) (by rfl) ?_
              simp only [Act.put, List.setIfInBounds_toArray, List.set_cons_zero, List.set_cons_succ]
              first
                | (refine held_take 23 159 (v := ?_) rfl rfl (by kernel_rfl) (by kernel_rfl) (by kernel_rfl) (fun _ _ _ h => h) (by assumption) (by rfl) ?_ ?_; rotate_left; (focus (intro w hSw; (try dsimp only at hSw); go_simp <;> with_reducible rfl)))
                | refine held_pass 23 159 rfl rfl (by kernel_rfl) (by kernel_rfl) (by kernel_rfl) (fun _ _ _ h => h) (by assumption) (by rfl) ?_
              simp only [Act.put, List.setIfInBounds_toArray, List.set_cons_zero, List.set_cons_succ]
              first
                | (refine held_take 24 160 (v := ?_) rfl rfl (by kernel_rfl) (by kernel_rfl) (by kernel_rfl) (fun _ _ _ h => h) (by assumption) (by rfl) ?_ ?_; rotate_left; (focus (intro w hSw; (try dsimp only at hSw); go_simp <;> with_reducible rfl)))
                | refine held_pass 24 160 rfl rfl (by kernel_rfl) (by kernel_rfl) (by kernel_rfl) (fun _ _ _ h => h) (by assumption) (by rfl) ?_
              simp only [Act.put, List.setIfInBounds_toArray, List.set_cons_zero, List.set_cons_succ]
              first
                | (refine held_take 25 161 (v := ?_) rfl rfl (by kernel_rfl) (by kernel_rfl) (by kernel_rfl) (fun _ _ _ h => h) (by assumption) (by rfl) ?_ ?_; rotate_left; (focus (intro w hSw; (try dsimp only at hSw); go_simp <;> with_reducible rfl)))
                | refine held_pass 25 161 rfl rfl (by kernel_rfl) (by kernel_rfl) (by kernel_rfl) (fun _ _ _ h => h) (by assumption) (by rfl) ?_
              simp only [Act.put, List.setIfInBounds_toArray, List.set_cons_zero, List.set_cons_succ]
              first
                | (refine held_take 26 162 (v := ?_) rfl rfl (by kernel_rfl) (by kernel_rfl) (by kernel_rfl) (fun _ _ _ h => h) (by assumption) (by rfl) ?_ ?_; rotate_left; (focus (intro w hSw; (try dsimp only at hSw); go_simp <;> with_reducible rfl)))
                | refine held_pass 26 162 rfl rfl (by kernel_rfl) (by kernel_rfl) (by kernel_rfl) (fun _ _ _ h => h) (by assumption) (by rfl) ?_
              simp only [Act.put, List.setIfInBounds_toArray, List.set_cons_zero, List.set_cons_succ]
              first
                | (refine held_take 27 163 (v := ?_) rfl rfl (by kernel_rfl) (by kernel_rfl) (by kernel_rfl) (fun _ _ _ h => h) (by assumption) (by rfl) ?_ ?_; rotate_left; (focus (intro w hSw; (try dsimp only at hSw); go_simp <;> with_reducible rfl)))
                | refine held_pass 27 163 rfl rfl (by kernel_rfl) (by kernel_rfl) (by kernel_rfl) (fun _ _ _ h => h) (by assumption) (by rfl) ?_
              simp only [Act.put, List.setIfInBounds_toArray, List.set_cons_zero, List.set_cons_succ]
              first
                | (refine held_take 28 164 (v := ?_) rfl rfl (by kernel_rfl) (by kernel_rfl) (by kernel_rfl) (fun _ _ _ h => h) (by assumption) (by rfl) ?_ ?_; rotate_left; (focus (intro w hSw; (try dsimp only at hSw); go_simp <;> with_reducible rfl)))
                | refine held_pass 28 164 rfl rfl (by kernel_rfl) (by kernel_rfl) (by kernel_rfl) (fun _ _ _ h => h) (by assumption) (by rfl) ?_
              simp only [Act.put, List.setIfInBounds_toArray, List.set_cons_zero, List.set_cons_succ]
              first
                | (refine held_take 29 165 (v := ?_) rfl rfl (by kernel_rfl) (by kernel_rfl) (by kernel_rfl) (fun _ _ _ h => h) (by assumption) (by rfl) ?_ ?_; rotate_left; (focus (intro w hSw; (try dsimp only at hSw); go_simp <;> with_reducible rfl)))
                | refine held_pass 29 165 rfl rfl (by kernel_rfl) (by kernel_rfl) (by kernel_rfl) (fun _ _ _ h => h) (by assumption) (by rfl) ?_
              simp only [Act.put, List.setIfInBounds_toArray, List.set_cons_zero, List.set_cons_succ]
              first
                | (refine held_take 30 166 (v := ?_) rfl rfl (by kernel_rfl) (by kernel_rfl) (by kernel_rfl) (fun _ _ _ h => h) (by assumption) (by rfl) ?_ ?_; rotate_left; (focus (intro w hSw; (try dsimp only at hSw); go_simp <;> with_reducible rfl)))
                | refine held_pass 30 166 rfl rfl (by kernel_rfl) (by kernel_rfl) (by kernel_rfl) (fun _ _ _ h => h) (by assumption) (by rfl) ?_
              simp only [Act.put, List.setIfInBounds_toArray, List.set_cons_zero, List.set_cons_succ]
              first
                | (refine held_take 31 167 (v := ?_) rfl rfl (by kernel_rfl) (by kernel_rfl) (by kernel_rfl) (fun _ _ _ h => h) (by assumption) (by rfl) ?_ ?_; rotate_left; (focus (intro w hSw; (try dsimp only at hSw); go_simp <;> with_reducible rfl)))
                | refine held_pass 31 167 rfl rfl (by kernel_rfl) (by kernel_rfl) (by kernel_rfl) (fun _ _ _ h => h) (by assumption) (by rfl) ?_
              simp only [Act.put, List.setIfInBounds_toArray, List.set_cons_zero, List.set_cons_succ]
              first
                | (refine held_take 32 168 (v := ?_) rfl rfl (by kernel_rfl) (by kernel_rfl) (by kernel_rfl) (fun _ _ _ h => h) (by assumption) (by rfl) ?_ ?_; rotate_left; (focus (intro w hSw; (try dsimp only at hSw); go_simp <;> with_reducible rfl)))
                | refine held_pass 32 168 rfl rfl (by kernel_rfl) (by kernel_rfl) (by kernel_rfl) (fun _ _ _ h => h) (by assumption) (by rfl) ?_
              simp only [Act.put, List.setIfInBounds_toArray, List.set_cons_zero, List.set_cons_succ]
              first
                | (refine held_take 33 169 (v := ?_) rfl rfl (by kernel_rfl) (by kernel_rfl) (by kernel_rfl) (fun _ _ _ h => h) (by assumption) (by rfl) ?_ ?_; rotate_left; (focus (intro w hSw; (try dsimp only at hSw); go_simp <;> with_reducible rfl)))
                | refine held_pass 33 169 rfl rfl (by kernel_rfl) (by kernel_rfl) (by kernel_rfl) (fun _ _ _ h => h) (by assumption) (by rfl) ?_
              simp only [Act.put, List.setIfInBounds_toArray, List.set_cons_zero, List.set_cons_succ]
              first
                | (refine held_take 34 170 (v := ?_) rfl rfl (by kernel_rfl) (by kernel_rfl) (by kernel_rfl) (fun _ _ _ h => h) (by assumption) (by rfl) ?_ ?_; rotate_left; (focus (intro w hSw; (try dsimp only at hSw); go_simp <;> with_reducible rfl)))
                | refine held_pass 34 170 rfl rfl (by kernel_rfl) (by kernel_rfl) (by kernel_rfl) (fun _ _ _ h => h) (by assumption) (by rfl) ?_
              simp only [Act.put, List.setIfInBounds_toArray, List.set_cons_zero, List.set_cons_succ]
              first
                | (refine held_take 35 171 (v := ?_) rfl rfl (by kernel_rfl) (by kernel_rfl) (by kernel_rfl) (fun _ _ _ h => h) (by assumption) (by rfl) ?_ ?_; rotate_left; (focus (intro w hSw; (try dsimp only at hSw); go_simp <;> with_reducible rfl)))
                | refine held_pass 35 171 rfl rfl (by kernel_rfl) (by kernel_rfl) (by kernel_rfl) (fun _ _ _ h => h) (by assumption) (by rfl) ?_
              simp only [Act.put, List.setIfInBounds_toArray, List.set_cons_zero, List.set_cons_succ]
              first
                | (refine held_take 36 172 (v := ?_) rfl rfl (by kernel_rfl) (by kernel_rfl) (by kernel_rfl) (fun _ _ _ h => h) (by assumption) (by rfl) ?_ ?_; rotate_left; (focus (intro w hSw; (try dsimp only at hSw); go_simp <;> with_reducible rfl)))
                | refine held_pass 36 172 rfl rfl (by kernel_rfl) (by kernel_rfl) (by kernel_rfl) (fun _ _ _ h => h) (by assumption) (by rfl) ?_
              simp only [Act.put, List.setIfInBounds_toArray, List.set_cons_zero, List.set_cons_succ]
              first
                | (refine held_take 37 173 (v := ?_) rfl rfl (by kernel_rfl) (by kernel_rfl) (by kernel_rfl) (fun _ _ _ h => h) (by assumption) (by rfl) ?_ ?_; rotate_left; (focus (intro w hSw; (try dsimp only at hSw); go_simp <;> with_reducible rfl)))
                | refine held_pass 37 173 rfl rfl (by kernel_rfl) (by kernel_rfl) (by kernel_rfl) (fun _ _ _ h => h) (by assumption) (by rfl) ?_
              simp only [Act.put, List.setIfInBounds_toArray, List.set_cons_zero, List.set_cons_succ]
              first
                | (refine held_take 38 174 (v := ?_) rfl rfl (by kernel_rfl) (by kernel_rfl) (by kernel_rfl) (fun _ _ _ h => h) (by assumption) (by rfl) ?_ ?_; rotate_left; (focus (intro w hSw; (try dsimp only at hSw); go_simp <;> with_reducible rfl)))
                | refine held_pass 38 174 rfl rfl (by kernel_rfl) (by kernel_rfl) (by kernel_rfl) (fun _ _ _ h => h) (by assumption) (by rfl) ?_
              simp only [Act.put, List.setIfInBounds_toArray, List.set_cons_zero, List.set_cons_succ]
              first
                | (refine held_take 39 175 (v := ?_) rfl rfl (by kernel_rfl) (by kernel_rfl) (by kernel_rfl) (fun _ _ _ h => h) (by assumption) (by rfl) ?_ ?_; rotate_left; (focus (intro w hSw; (try dsimp only at hSw); go_simp <;> with_reducible rfl)))
                | refine held_pass 39 175 rfl rfl (by kernel_rfl) (by kernel_rfl) (by kernel_rfl) (fun _ _ _ h => h) (by assumption) (by rfl) ?_
              simp only [Act.put, List.setIfInBounds_toArray, List.set_cons_zero, List.set_cons_succ]
              first
                | (refine held_take 40 176 (v := ?_) rfl rfl (by kernel_rfl) (by kernel_rfl) (by kernel_rfl) (fun _ _ _ h => h) (by assumption) (by rfl) ?_ ?_; rotate_left; (focus (intro w hSw; (try dsimp only at hSw); go_simp <;> with_reducible rfl)))
                | refine held_pass 40 176 rfl rfl (by kernel_rfl) (by kernel_rfl) (by kernel_rfl) (fun _ _ _ h => h) (by assumption) (by rfl) ?_
              simp only [Act.put, List.setIfInBounds_toArray, List.set_cons_zero, List.set_cons_succ]
              first
                | (refine held_take 41 177 (v := ?_) rfl rfl (by kernel_rfl) (by kernel_rfl) (by kernel_rfl) (fun _ _ _ h => h) (by assumption) (by rfl) ?_ ?_; rotate_left; (focus (intro w hSw; (try dsimp only at hSw); go_simp <;> with_reducible rfl)))
                | refine held_pass 41 177 rfl rfl (by kernel_rfl) (by kernel_rfl) (by kernel_rfl) (fun _ _ _ h => h) (by assumption) (by rfl) ?_
              simp only [Act.put, List.setIfInBounds_toArray, List.set_cons_zero, List.set_cons_succ]
              first
                | (refine held_take 42 178 (v := ?_) rfl rfl (by kernel_rfl) (by kernel_rfl) (by kernel_rfl) (fun _ _ _ h => h) (by assumption) (by rfl) ?_ ?_; rotate_left; (focus (intro w hSw; (try dsimp only at hSw); go_simp <;> with_reducible rfl)))
                | refine held_pass 42 178 rfl rfl (by kernel_rfl) (by kernel_rfl) (by kernel_rfl) (fun _ _ _ h => h) (by assumption) (by rfl) ?_
              simp only [Act.put, List.setIfInBounds_toArray, List.set_cons_zero, List.set_cons_succ]
              first
                | (refine held_take 43 179 (v := ?_) rfl rfl (by kernel_rfl) (by kernel_rfl) (by kernel_rfl) (fun _ _ _ h => h) (by assumption) (by rfl) ?_ ?_; rotate_left; (focus (intro w hSw; (try dsimp only at hSw); go_simp <;> with_reducible rfl)))
                | refine held_pass 43 179 rfl rfl (by kernel_rfl) (by kernel_rfl) (by kernel_rfl) (fun _ _ _ h => h) (by assumption) (by rfl) ?_
              simp only [Act.put, List.setIfInBounds_toArray, List.set_cons_zero, List.set_cons_succ]
              first
                | (refine held_take 44 180 (v := ?_) rfl rfl (by kernel_rfl) (by kernel_rfl) (by kernel_rfl) (fun _ _ _ h => h) (by assumption) (by rfl) ?_ ?_; rotate_left; (focus (intro w hSw; (try dsimp only at hSw); go_simp <;> with_reducible rfl)))
                | refine held_pass 44 180 rfl rfl (by kernel_rfl) (by kernel_rfl) (by kernel_rfl) (fun _ _ _ h => h) (by assumption) (by rfl) ?_
              simp only [Act.put, List.setIfInBounds_toArray, List.set_cons_zero, List.set_cons_succ]
              first
                | (refine held_take 45 181 (v := ?_) rfl rfl (by kernel_rfl) (by kernel_rfl) (by kernel_rfl) (fun _ _ _ h => h) (by assumption) (by rfl) ?_ ?_; rotate_left; (focus (intro w hSw; (try dsimp only at hSw); go_simp <;> with_reducible rfl)))
                | refine held_pass 45 181 rfl rfl (by kernel_rfl) (by kernel_rfl) (by kernel_rfl) (fun _ _ _ h => h) (by assumption) (by rfl) ?_
              simp only [Act.put, List.setIfInBounds_toArray, List.set_cons_zero, List.set_cons_succ]
              first
                | (refine held_take 46 182 (v := ?_) rfl rfl (by kernel_rfl) (by kernel_rfl) (by kernel_rfl) (fun _ _ _ h => h) (by assumption) (by rfl) ?_ ?_; rotate_left; (focus (intro w hSw; (try dsimp only at hSw); go_simp <;> with_reducible rfl)))
                | refine held_pass 46 182 rfl rfl (by kernel_rfl) (by kernel_rfl) (by kernel_rfl) (fun _ _ _ h => h) (by assumption) (by rfl) ?_
              simp only [Act.put, List.setIfInBounds_toArray, List.set_cons_zero, List.set_cons_succ]
              first
                | (refine held_take 47 183 (v := ?_) rfl rfl (by kernel_rfl) (by kernel_rfl) (by kernel_rfl) (fun _ _ _ h => h) (by assumption) (by rfl) ?_ ?_; rotate_left; (focus (intro w hSw; (try dsimp only at hSw); go_simp <;> with_reducible rfl)))
                | refine held_pass 47 183 rfl rfl (by kernel_rfl) (by kernel_rfl) (by kernel_rfl) (fun _ _ _ h => h) (by assumption) (by rfl) ?_
              simp only [Act.put, List.setIfInBounds_toArray, List.set_cons_zero, List.set_cons_succ]
              first
                | (refine held_take 48 184 (v := ?_) rfl rfl (by kernel_rfl) (by kernel_rfl) (by kernel_rfl) (fun _ _ _ h => h) (by assumption) (by rfl) ?_ ?_; rotate_left; (focus (intro w hSw; (try dsimp only at hSw); go_simp <;> with_reducible rfl)))
                | refine held_pass 48 184 rfl rfl (by kernel_rfl) (by kernel_rfl) (by kernel_rfl) (fun _ _ _ h => h) (by assumption) (by rfl) ?_
              simp only [Act.put, List.setIfInBounds_toArray, List.set_cons_zero, List.set_cons_succ]
              refine wpAnyH_done (by kernel_rfl) ?_ _
              clear S5 S6 I1 I2 IK BB BC CR L2 L3 x1 y1 y3 x2
              go_wp2
              go_roundw
              all_goals first
                | exact ⟨k + 1, N, hlt, by omega, by go_num, hN, HLN, S7.out⟩
                | (simp [intOf] <;> omega)
            · have dq : decide (0 < q) = false := by simp; omega
              have hs2 : s = false := by
                rw [hs]
                cases X with
                | nil => rfl
                | cons x X' => simp at hXq; omega
              have hh2 : h0 = 0 := by
                rw [hh]
                cases X with
                | nil => rfl
                | cons x X' => simp at hXq; omega
              subst hs2
              subst hh2
              have HQ := Lib.hid hq
              clear hh hs hq hq0
              go_wp2_with fail
              refine (L1.out _ HP.out).mono ?_
              rintro e w5 ⟨rfl, hb, _⟩
              have S5 := Lib.hid hb
              obtain ⟨vk, vv, r1, _, r3, _, _⟩ := hb.2
              obtain ⟨ak, ck, rfl, hck, _⟩ := row_of r3
              rw [← HQ.out] at r1 r3 hck
              rw [← HXE.out] at r3
              have CR : Hid (∀ u, Below w5.heap.size w5 u → u.cell? ⟨R, 0, none⟩ = some (.slice ak q ck)) := fun u hu => ((ref_cells r1).1 u hu).1
              have IK := Lib.hid (show Ints w5 w5.heap.size _ X from ints_own r3 (Nat.le_refl _))
              have x1 := CR.out w5 (Below.refl _ _)
              clear hb r1 r3 HP L1
              go_upto_region 29 with fail
              refine wp_region_held_drew (S := fun u => u.cell? ⟨R, 0, none⟩ = some (.slice ak q ck)) (by kernel_rfl) (CR.out _ (by go_grown)) (fun hHeld => ?_)
              first
                | (refine held_take 0 136 (v := ?_) rfl rfl (by kernel_rfl) (by kernel_rfl) (by kernel_rfl) (fun _ _ _ h => h) (by assumption) (by rfl) ?_ ?_; rotate_left; (focus (intro w hSw; (try dsimp only at hSw); go_simp <;> with_reducible rfl)))
                | refine held_pass 0 136 rfl rfl (by kernel_rfl) (by kernel_rfl) (by kernel_rfl) (fun _ _ _ h => h) (by assumption) (by rfl) ?_
              simp only [Act.put, List.setIfInBounds_toArray, List.set_cons_zero, List.set_cons_succ]
              first
                | (refine held_take 2 138 (v := ?_) rfl rfl (by kernel_rfl) (by kernel_rfl) (by kernel_rfl) (fun _ _ _ h => h) (by assumption) (by rfl) ?_ ?_; rotate_left; (focus (intro w hSw; (try dsimp only at hSw); go_simp <;> with_reducible rfl)))
                | refine held_pass 2 138 rfl rfl (by kernel_rfl) (by kernel_rfl) (by kernel_rfl) (fun _ _ _ h => h) (by assumption) (by rfl) ?_
              simp only [Act.put, List.setIfInBounds_toArray, List.set_cons_zero, List.set_cons_succ]
              first
                | (refine held_take 3 139 (v := ?_) rfl rfl (by kernel_rfl) (by kernel_rfl) (by kernel_rfl) (fun _ _ _ h => h) (by assumption) (by rfl) ?_ ?_; rotate_left; (focus (intro w hSw; (try dsimp only at hSw); go_simp <;> with_reducible rfl)))
                | refine held_pass 3 139 rfl rfl (by kernel_rfl) (by kernel_rfl) (by kernel_rfl) (fun _ _ _ h => h) (by assumption) (by rfl) ?_
              simp only [Act.put, List.setIfInBounds_toArray, List.set_cons_zero, List.set_cons_succ]
              first
                | (refine held_take 4 140 (v := ?_) rfl rfl (by kernel_rfl) (by kernel_rfl) (by kernel_rfl) (fun _ _ _ h => h) (by assumption) (by rfl) ?_ ?_; rotate_left; (focus (intro w hSw; (try dsimp only at hSw); go_simp <;> with_reducible rfl)))
                | refine held_pass 4 140 rfl rfl (by kernel_rfl) (by kernel_rfl) (by kernel_rfl) (fun _ _ _ h => h) (by assumption) (by rfl) ?_
              simp only [Act.put, List.setIfInBounds_toArray, List.set_cons_zero, List.set_cons_succ]
              first
                | (refine held_take 5 141 (v := ?_) rfl rfl (by kernel_rfl) (by kernel_rfl) (by kernel_rfl) (fun _ _ _ h => h) (by assumption) (by rfl) ?_ ?_; rotate_left; (focus (intro w hSw; (try dsimp only at hSw); go_simp <;> with_reducible rfl)))
                | refine held_pass 5 141 rfl rfl (by kernel_rfl) (by kernel_rfl) (by kernel_rfl) (fun _ _ _ h => h) (by assumption) (by rfl) ?_
              simp only [Act.put, List.setIfInBounds_toArray, List.set_cons_zero, List.set_cons_succ]
              first
                | (refine held_take 6 142 (v := ?_) rfl rfl (by kernel_rfl) (by kernel_rfl) (by kernel_rfl) (fun _ _ _ h => h) (by assumption) (by rfl) ?_ ?_; rotate_left; (focus (intro w hSw; (try dsimp only at hSw); go_simp <;> with_reducible rfl)))
                | refine held_pass 6 142 rfl rfl (by kernel_rfl) (by kernel_rfl) (by kernel_rfl) (fun _ _ _ h => h) (by assumption) (by rfl) ?_
              simp only [Act.put, List.setIfInBounds_toArray, List.set_cons_zero, List.set_cons_succ]
              refine held_call 1 137 rfl rfl (by kernel_rfl) (by rfl) (fun K hK => ?_)
              simp only [Go.wp_at_succ, Go.wp_at_zero]
              go_simp
              go_at_call 20
              (with_reducible refine (L2.out _ (S5.out.on (by go_grown))).mono ?_)
              rintro e u3 ⟨rfl, rfl⟩
              first | (with_reducible refine hK.out _ _ ?_ (fun hHeld => ?_)) | (go_wp2_with fail; refine hK.out _ _ ?_ (fun hHeld => ?_))
              · exact hHeld
              clear hK K
              try simp only [Act.put, List.setIfInBounds_toArray, List.set_cons_zero, List.set_cons_succ]
              first
                | (refine held_take 7 143 (v := ?_) rfl rfl (by kernel_rfl) (by kernel_rfl) (by kernel_rfl) (fun _ _ _ h => h) (by assumption) (by rfl) ?_ ?_; rotate_left; (focus (intro w hSw; (try dsimp only at hSw); go_simp <;> with_reducible rfl)))
                | refine held_pass 7 143 rfl rfl (by kernel_rfl) (by kernel_rfl) (by kernel_rfl) (fun _ _ _ h => h) (by assumption) (by rfl) ?_
              simp only [Act.put, List.setIfInBounds_toArray, List.set_cons_zero, List.set_cons_succ]
              first
                | (refine held_take 8 144 (v := ?_) rfl rfl (by kernel_rfl) (by kernel_rfl) (by kernel_rfl) (fun _ _ _ h => h) (by assumption) (by rfl) ?_ ?_; rotate_left; (focus (intro w hSw; (try dsimp only at hSw); go_simp <;> with_reducible rfl)))
                | refine held_pass 8 144 rfl rfl (by kernel_rfl) (by kernel_rfl) (by kernel_rfl) (fun _ _ _ h => h) (by assumption) (by rfl) ?_
              simp only [Act.put, List.setIfInBounds_toArray, List.set_cons_zero, List.set_cons_succ]
              first
                | (refine held_take 9 145 (v := ?_) rfl rfl (by kernel_rfl) (by kernel_rfl) (by kernel_rfl) (fun _ _ _ h => h) (by assumption) (by rfl) ?_ ?_; rotate_left; (focus (intro w hSw; (try dsimp only at hSw); go_simp <;> with_reducible rfl)))
                | refine held_pass 9 145 rfl rfl (by kernel_rfl) (by kernel_rfl) (by kernel_rfl) (fun _ _ _ h => h) (by assumption) (by rfl) ?_
              simp only [Act.put, List.setIfInBounds_toArray, List.set_cons_zero, List.set_cons_succ]
              first
                | (refine held_take 11 147 (v := ?_) rfl rfl (by kernel_rfl) (by kernel_rfl) (by kernel_rfl) (fun _ _ _ h => h) (by assumption) (by rfl) ?_ ?_; rotate_left; (focus (intro w hSw; (try dsimp only at hSw); go_simp <;> with_reducible rfl)))
                | refine held_pass 11 147 rfl rfl (by kernel_rfl) (by kernel_rfl) (by kernel_rfl) (fun _ _ _ h => h) (by assumption) (by rfl) ?_
              simp only [Act.put, List.setIfInBounds_toArray, List.set_cons_zero, List.set_cons_succ]
              first
                | (refine held_take 12 148 (v := ?_) rfl rfl (by kernel_rfl) (by kernel_rfl) (by kernel_rfl) (fun _ _ _ h => h) (by assumption) (by rfl) ?_ ?_; rotate_left; (focus (intro w hSw; (try dsimp only at hSw); go_simp <;> with_reducible rfl)))
                | refine held_pass 12 148 rfl rfl (by kernel_rfl) (by kernel_rfl) (by kernel_rfl) (fun _ _ _ h => h) (by assumption) (by rfl) ?_
              simp only [Act.put, List.setIfInBounds_toArray, List.set_cons_zero, List.set_cons_succ]
              first
                | (refine held_take 13 149 (v := ?_) rfl rfl (by kernel_rfl) (by kernel_rfl) (by kernel_rfl) (fun _ _ _ h => h) (by assumption) (by rfl) ?_ ?_; rotate_left; (focus (intro w hSw; (try dsimp only at hSw); go_simp <;> with_reducible rfl)))
                | refine held_pass 13 149 rfl rfl (by kernel_rfl) (by kernel_rfl) (by kernel_rfl) (fun _ _ _ h => h) (by assumption) (by rfl) ?_
              simp only [Act.put, List.setIfInBounds_toArray, List.set_cons_zero, List.set_cons_succ]
              first
                | (refine held_take 14 150 (v := ?_) rfl rfl (by kernel_rfl) (by kernel_rfl) (by kernel_rfl) (fun _ _ _ h => h) (by assumption) (by rfl) ?_ ?_; rotate_left; (focus (intro w hSw; (try dsimp only at hSw); go_simp <;> with_reducible rfl)))
                | refine held_pass 14 150 rfl rfl (by kernel_rfl) (by kernel_rfl) (by kernel_rfl) (fun _ _ _ h => h) (by assumption) (by rfl) ?_
              simp only [Act.put, List.setIfInBounds_toArray, List.set_cons_zero, List.set_cons_succ]
              refine held_call 10 146 rfl rfl (by kernel_rfl) (by rfl) (fun K hK => ?_)
              simp only [Go.wp_at_succ, Go.wp_at_zero]
              go_simp
              go_at_call 21
              (with_reducible refine (L3.out _ (S5.out.on (by go_grown))).mono ?_)
              rintro e u4 ⟨a1, c1, rfl, hi, hb, hbel⟩
              have I1 := Lib.hid hi
              have S6 := Lib.hid hb
              have BB := Lib.hid ((show Below w5.heap.size w5 w5.drew by go_grown).trans hbel)
              have I2 := Lib.hid ((IK.out.keep BB.out).mono BB.out.size)
              have y1 := CR.out u4 BB.out
              clear hi hb hbel
              first | (with_reducible refine hK.out _ _ ?_ (fun hHeld => ?_)) | (go_wp2_with fail; refine hK.out _ _ ?_ (fun hHeld => ?_))
              · exact y1
              clear hK K
              try simp only [Act.put, List.setIfInBounds_toArray, List.set_cons_zero, List.set_cons_succ]
              refine held_call 15 151 rfl rfl (by kernel_rfl) (by rfl) (fun K hK => ?_)
              simp only [Go.wp_at_succ, Go.wp_at_zero]
              go_simp
              go_at_call 14
              (with_reducible refine (HX.out _ _ _ _ _ _ _ _ KX.out I1.out I2.out).mono ?_)
              rintro e u5 ⟨rfl, hb⟩
              have S7 := Lib.hid (S6.out.on hb)
              have BC := Lib.hid (BB.out.trans (hb.mono BB.out.size))
              have y3 := CR.out u5 BC.out
              clear hb
              first | (with_reducible refine hK.out _ _ ?_ (fun hHeld => ?_)) | (go_wp2_with fail; refine hK.out _ _ ?_ (fun hHeld => ?_))
              · exact y3
              clear hK K
              try simp only [Act.put, List.setIfInBounds_toArray, List.set_cons_zero, List.set_cons_succ]
              first
                | (refine held_take 16 152 (v := ?_) rfl rfl (by kernel_rfl) (by kernel_rfl) (by kernel_rfl) (fun _ _ _ h => h) (by assumption) (by rfl) ?_ ?_; rotate_left; (focus (intro w hSw; (try dsimp only at hSw); go_simp <;> with_reducible rfl)))
                | refine held_pass 16 152 rfl rfl (by kernel_rfl) (by kernel_rfl) (by kernel_rfl) (fun _ _ _ h => h) (by assumption) (by rfl) ?_
              simp only [Act.put, List.setIfInBounds_toArray, List.set_cons_zero, List.set_cons_succ]
              first
                | (refine held_take 17 153 (v := ?_) rfl rfl (by kernel_rfl) (by kernel_rfl) (by kernel_rfl) (fun _ _ _ h => h) (by assumption) (by rfl) ?_ ?_; rotate_left; (focus (intro w hSw; (try dsimp only at hSw); go_simp <;> with_reducible rfl)))
                | refine held_pass 17 153 rfl rfl (by kernel_rfl) (by kernel_rfl) (by kernel_rfl) (fun _ _ _ h => h) (by assumption) (by rfl) ?_
              simp only [Act.put, List.setIfInBounds_toArray, List.set_cons_zero, List.set_cons_succ]
              first
                | (refine held_take 18 154 (v := ?_) rfl rfl (by kernel_rfl) (by kernel_rfl) (by kernel_rfl) (fun _ _ _ h => h) (by assumption) (by rfl) ?_ ?_; rotate_left; (focus (intro w hSw; (try dsimp only at hSw); go_simp <;> with_reducible rfl)))
                | refine held_pass 18 154 rfl rfl (by kernel_rfl) (by kernel_rfl) (by kernel_rfl) (fun _ _ _ h => h) (by assumption) (by rfl) ?_
              simp only [Act.put, List.setIfInBounds_toArray, List.set_cons_zero, List.set_cons_succ]
              first
                | (refine held_take 19 155 (v := ?_) rfl rfl (by kernel_rfl) (by kernel_rfl) (by kernel_rfl) (fun _ _ _ h => h) (by assumption) (by rfl) ?_ ?_; rotate_left; (focus (intro w hSw; (try dsimp only at hSw); go_simp <;> with_reducible rfl)))
                | refine held_pass 19 155 rfl rfl (by kernel_rfl) (by kernel_rfl) (by kernel_rfl) (fun _ _ _ h => h) (by assumption) (by rfl) ?_
              simp only [Act.put, List.setIfInBounds_toArray, List.set_cons_zero, List.set_cons_succ]
              first
                | (refine held_take 20 156 (v := ?_) rfl rfl (by kernel_rfl) (by kernel_rfl) (by kernel_rfl) (fun _ _ _ h => h) (by assumption) (by rfl) ?_ ?_; rotate_left; (focus (intro w hSw; (try dsimp only at hSw); go_simp <;> with_reducible rfl)))
                | refine held_pass 20 156 rfl rfl (by kernel_rfl) (by kernel_rfl) (by kernel_rfl) (fun _ _ _ h => h) (by assumption) (by rfl) ?_
              simp only [Act.put, List.setIfInBounds_toArray, List.set_cons_zero, List.set_cons_succ]
              first
                | (refine held_take 21 157 (v := ?_) rfl rfl (by kernel_rfl) (by kernel_rfl) (by kernel_rfl) (fun _ _ _ h => h) (by assumption) (by rfl) ?_ ?_; rotate_left; (focus (intro w hSw; (try dsimp only at hSw); go_simp <;> with_reducible rfl)))
                | refine held_pass 21 157 rfl rfl (by kernel_rfl) (by kernel_rfl) (by kernel_rfl) (fun _ _ _ h => h) (by assumption) (by rfl) ?_
              simp only [Act.put, List.setIfInBounds_toArray, List.set_cons_zero, List.set_cons_succ]
              first
                | (refine held_take 22 158 (v := ?_) rfl rfl (by kernel_rfl) (by kernel_rfl) (by kernel_rfl) (fun _ _ _ h => h) (by assumption) (by rfl) ?_ ?_; rotate_left; (focus (intro w hSw; (try dsimp only at hSw); go_simp <;> with_reducible rfl)))
                | refine held_pass 22 158 rfl rfl (by kernel_rfl) (by kernel_rfl) (by kernel_rfl) (fun _ _ _ h => h) (by assumption) (by rfl) ?_
              simp only [Act.put, List.setIfInBounds_toArray, List.set_cons_zero, List.set_cons_succ]
              first
                | (refine held_take 23 159 (v := ?_) rfl rfl (by kernel_rfl) (by kernel_rfl) (by kernel_rfl) (fun _ _ _ h => h) (by assumption) (by rfl) ?_ ?_; rotate_left; (focus (intro w hSw; (try dsimp only at hSw); go_simp <;> with_reducible rfl)))
                | refine held_pass 23 159 rfl rfl (by kernel_rfl) (by kernel_rfl) (by kernel_rfl) (fun _ _ _ h => h) (by assumption) (by rfl) ?_
              simp only [Act.put, List.setIfInBounds_toArray, List.set_cons_zero, List.set_cons_succ]
              first
                | (refine held_take 24 160 (v := ?_) rfl rfl (by kernel_rfl) (by kernel_rfl) (by kernel_rfl) (fun _ _ _ h => h) (by assumption) (by rfl) ?_ ?_; rotate_left; (focus (intro w hSw; (try dsimp only at hSw); go_simp <;> with_reducible rfl)))
                | refine held_pass 24 160 rfl rfl (by kernel_rfl) (by kernel_rfl) (by kernel_rfl) (fun _ _ _ h => h) (by assumption) (by rfl) ?_
              simp only [Act.put, List.setIfInBounds_toArray, List.set_cons_zero, List.set_cons_succ]
              first
                | (refine held_take 25 161 (v := ?_) rfl rfl (by kernel_rfl) (by kernel_rfl) (by kernel_rfl) (fun _ _ _ h => h) (by assumption) (by rfl) ?_ ?_; rotate_left; (focus (intro w hSw; (try dsimp only at hSw); go_simp <;> with_reducible rfl)))
                | refine held_pass 25 161 rfl rfl (by kernel_rfl) (by kernel_rfl) (by kernel_rfl) (fun _ _ _ h => h) (by assumption) (by rfl) ?_
              simp only [Act.put, List.setIfInBounds_toArray, List.set_cons_zero, List.set_cons_succ]
              first
                | (refine held_take 26 162 (v := ?_) rfl rfl (by kernel_rfl) (by kernel_rfl) (by kernel_rfl) (fun _ _ _ h => h) (by assumption) (by rfl) ?_ ?_; rotate_left; (focus (intro w hSw; (try dsimp only at hSw); go_simp <;> with_reducible rfl)))
                | refine held_pass 26 162 rfl rfl (by kernel_rfl) (by kernel_rfl) (by kernel_rfl) (fun _ _ _ h => h) (by assumption) (by rfl) ?_
              simp only [Act.put, List.setIfInBounds_toArray, List.set_cons_zero, List.set_cons_succ]
              first
                | (refine held_take 27 163 (v := ?_) rfl rfl (by kernel_rfl) (by kernel_rfl) (by kernel_rfl) (fun _ _ _ h => h) (by assumption) (by rfl) ?_ ?_; rotate_left; (focus (intro w hSw; (try dsimp only at hSw); go_simp <;> with_reducible rfl)))
                | refine held_pass 27 163 rfl rfl (by kernel_rfl) (by kernel_rfl) (by kernel_rfl) (fun _ _ _ h => h) (by assumption) (by rfl) ?_
              simp only [Act.put, List.setIfInBounds_toArray, List.set_cons_zero, List.set_cons_succ]
              first
                | (refine held_take 28 164 (v := ?_) rfl rfl (by kernel_rfl) (by kernel_rfl) (by kernel_rfl) (fun _ _ _ h => h) (by assumption) (by rfl) ?_ ?_; rotate_left; (focus (intro w hSw; (try dsimp only at hSw); go_simp <;> with_reducible rfl)))
                | refine held_pass 28 164 rfl rfl (by kernel_rfl) (by kernel_rfl) (by kernel_rfl) (fun _ _ _ h => h) (by assumption) (by rfl) ?_
              simp only [Act.put, List.setIfInBounds_toArray, List.set_cons_zero, List.set_cons_succ]
              first
                | (refine held_take 29 165 (v := ?_) rfl rfl (by kernel_rfl) (by kernel_rfl) (by kernel_rfl) (fun _ _ _ h => h) (by assumption) (by rfl) ?_ ?_; rotate_left; (focus (intro w hSw; (try dsimp only at hSw); go_simp <;> with_reducible rfl)))
                | refine held_pass 29 165 rfl rfl (by kernel_rfl) (by kernel_rfl) (by kernel_rfl) (fun _ _ _ h => h) (by assumption) (by rfl) ?_
              simp only [Act.put, List.setIfInBounds_toArray, List.set_cons_zero, List.set_cons_succ]
              first
                | (refine held_take 30 166 (v := ?_) rfl rfl (by kernel_rfl) (by kernel_rfl) (by kernel_rfl) (fun _ _ _ h => h) (by assumption) (by rfl) ?_ ?_; rotate_left; (focus (intro w hSw; (try dsimp only at hSw); go_simp <;> with_reducible rfl)))
                | refine held_pass 30 166 rfl rfl (by kernel_rfl) (by kernel_rfl) (by kernel_rfl) (fun _ _ _ h => h) (by assumption) (by rfl) ?_
              simp only [Act.put, List.setIfInBounds_toArray, List.set_cons_zero, List.set_cons_succ]
              first
                | (refine held_take 31 167 (v := ?_) rfl rfl (by kernel_rfl) (by kernel_rfl) (by kernel_rfl) (fun _ _ _ h => h) (by assumption) (by rfl) ?_ ?_; rotate_left; (focus (intro w hSw; (try dsimp only at hSw); go_simp <;> with_reducible rfl)))
                | refine held_pass 31 167 rfl rfl (by kernel_rfl) (by kernel_rfl) (by kernel_rfl) (fun _ _ _ h => h) (by assumption) (by rfl) ?_
              simp only [Act.put, List.setIfInBounds_toArray, List.set_cons_zero, List.set_cons_succ]
              first
                | (refine held_take 32 168 (v := ?_) rfl rfl (by kernel_rfl) (by kernel_rfl) (by kernel_rfl) (fun _ _ _ h => h) (by assumption) (by rfl) ?_ ?_; rotate_left; (focus (intro w hSw; (try dsimp only at hSw); go_simp <;> with_reducible rfl)))
                | refine held_pass 32 168 rfl rfl (by kernel_rfl) (by kernel_rfl) (by kernel_rfl) (fun _ _ _ h => h) (by assumption) (by rfl) ?_
              simp only [Act.put, List.setIfInBounds_toArray, List.set_cons_zero, List.set_cons_succ]
              first
                | (refine held_take 33 169 (v := ?_) rfl rfl (by kernel_rfl) (by kernel_rfl) (by kernel_rfl) (fun _ _ _ h => h) (by assumption) (by rfl) ?_ ?_; rotate_left; (focus (intro w hSw; (try dsimp only at hSw); go_simp <;> with_reducible rfl)))
                | refine held_pass 33 169 rfl rfl (by kernel_rfl) (by kernel_rfl) (by kernel_rfl) (fun _ _ _ h => h) (by assumption) (by rfl) ?_
              simp only [Act.put, List.setIfInBounds_toArray, List.set_cons_zero, List.set_cons_succ]
              first
                | (refine held_take 34 170 (v := ?_) rfl rfl (by kernel_rfl) (by kernel_rfl) (by kernel_rfl) (fun _ _ _ h => h) (by assumption) (by rfl) ?_ ?_; rotate_left; (focus (intro w hSw; (try dsimp only at hSw); go_simp <;> with_reducible rfl)))
                | refine held_pass 34 170 rfl rfl (by kernel_rfl) (by kernel_rfl) (by kernel_rfl) (fun _ _ _ h => h) (by assumption) (by rfl) ?_
              simp only [Act.put, List.setIfInBounds_toArray, List.set_cons_zero, List.set_cons_succ]
              first
                | (refine held_take 35 171 (v := ?_) rfl rfl (by kernel_rfl) (by kernel_rfl) (by kernel_rfl) (fun _ _ _ h => h) (by assumption) (by rfl) ?_ ?_; rotate_left; (focus (intro w hSw; (try dsimp only at hSw); go_simp <;> with_reducible rfl)))
                | refine held_pass 35 171 rfl rfl (by kernel_rfl) (by kernel_rfl) (by kernel_rfl) (fun _ _ _ h => h) (by assumption) (by rfl) ?_
              simp only [Act.put, List.setIfInBounds_toArray, List.set_cons_zero, List.set_cons_succ]
              first
                | (refine held_take 36 172 (v := ?_) rfl rfl (by kernel_rfl) (by kernel_rfl) (by kernel_rfl) (fun _ _ _ h => h) (by assumption) (by rfl) ?_ ?_; rotate_left; (focus (intro w hSw; (try dsimp only at hSw); go_simp <;> with_reducible rfl)))
                | refine held_pass 36 172 rfl rfl (by kernel_rfl) (by kernel_rfl) (by kernel_rfl) (fun _ _ _ h => h) (by assumption) (by rfl) ?_
              simp only [Act.put, List.setIfInBounds_toArray, List.set_cons_zero, List.set_cons_succ]
              first
                | (refine held_take 37 173 (v := ?_) rfl rfl (by kernel_rfl) (by kernel_rfl) (by kernel_rfl) (fun _ _ _ h => h) (by assumption) (by rfl) ?_ ?_; rotate_left; (focus (intro w hSw; (try dsimp only at hSw); go_simp <;> with_reducible rfl)))
                | refine held_pass 37 173 rfl rfl (by kernel_rfl) (by kernel_rfl) (by kernel_rfl) (fun _ _ _ h => h) (by assumption) (by rfl) ?_
              simp only [Act.put, List.setIfInBounds_toArray, List.set_cons_zero, List.set_cons_succ]
              first
                | (refine held_take 38 174 (v := ?_) rfl rfl (by kernel_rfl) (by kernel_rfl) (by kernel_rfl) (fun _ _ _ h => h) (by assumption) (by rfl) ?_ ?_; rotate_left; (focus (intro w hSw; (try dsimp only at hSw); go_simp <;> with_reducible rfl)))
                | refine held_pass 38 174 rfl rfl (by kernel_rfl) (by kernel_rfl) (by kernel_rfl) (fun _ _ _ h => h) (by assumption) (by rfl) ?_
              simp only [Act.put, List.setIfInBounds_toArray, List.set_cons_zero, List.set_cons_succ]
              first
                | (refine held_take 39 175 (v := ?_) rfl rfl (by kernel_rfl) (by kernel_rfl) (by kernel_rfl) (fun _ _ _ h => h) (by assumption) (by rfl) ?_ ?_; rotate_left; (focus (intro w hSw; (try dsimp only at hSw); go_simp <;> with_reducible rfl)))
                | refine held_pass 39 175 rfl rfl (by kernel_rfl) (by kernel_rfl) (by kernel_rfl) (fun _ _ _ h => h) (by assumption) (by rfl) ?_
              simp only [Act.put, List.setIfInBounds_toArray, List.set_cons_zero, List.set_cons_succ]
              first
                | (refine held_take 40 176 (v := ?_) rfl rfl (by kernel_rfl) (by kernel_rfl) (by kernel_rfl) (fun _ _ _ h => h) (by assumption) (by rfl) ?_ ?_; rotate_left; (focus (intro w hSw; (try dsimp only at hSw); go_simp <;> with_reducible rfl)))
                | refine held_pass 40 176 rfl rfl (by kernel_rfl) (by kernel_rfl) (by kernel_rfl) (fun _ _ _ h => h) (by assumption) (by rfl) ?_
              simp only [Act.put, List.setIfInBounds_toArray, List.set_cons_zero, List.set_cons_succ]
              first
                | (refine held_take 41 177 (v := ?_) rfl rfl (by kernel_rfl) (by kernel_rfl) (by kernel_rfl) (fun _ _ _ h => h) (by assumption) (by rfl) ?_ ?_; rotate_left; (focus (intro w hSw; (try dsimp only at hSw); go_simp <;> with_reducible rfl)))
                | refine held_pass 41 177 rfl rfl (by kernel_rfl) (by kernel_rfl) (by kernel_rfl) (fun _ _ _ h => h) (by assumption) (by rfl) ?_
              simp only [Act.put, List.setIfInBounds_toArray, List.set_cons_zero, List.set_cons_succ]
              first
                | (refine held_take 42 178 (v := ?_) rfl rfl (by kernel_rfl) (by kernel_rfl) (by kernel_rfl) (fun _ _ _ h => h) (by assumption) (by rfl) ?_ ?_; rotate_left; (focus (intro w hSw; (try dsimp only at hSw); go_simp <;> with_reducible rfl)))
                | refine held_pass 42 178 rfl rfl (by kernel_rfl) (by kernel_rfl) (by kernel_rfl) (fun _ _ _ h => h) (by assumption) (by rfl) ?_
              simp only [Act.put, List.setIfInBounds_toArray, List.set_cons_zero, List.set_cons_succ]
              first
                | (refine held_take 43 179 (v := ?_) rfl rfl (by kernel_rfl) (by kernel_rfl) (by kernel_rfl) (fun _ _ _ h => h) (by assumption) (by rfl) ?_ ?_; rotate_left; (focus (intro w hSw; (try dsimp only at hSw); go_simp <;> with_reducible rfl)))
                | refine held_pass 43 179 rfl rfl (by kernel_rfl) (by kernel_rfl) (by kernel_rfl) (fun _ _ _ h => h) (by assumption) (by rfl) ?_
              simp only [Act.put, List.setIfInBounds_toArray, List.set_cons_zero, List.set_cons_succ]
              first
                | (refine held_take 44 180 (v := ?_) rfl rfl (by kernel_rfl) (by kernel_rfl) (by kernel_rfl) (fun _ _ _ h => h) (by assumption) (by rfl) ?_ ?_; rotate_left; (focus (intro w hSw; (try dsimp only at hSw); go_simp <;> with_reducible rfl)))
                | refine held_pass 44 180 rfl rfl (by kernel_rfl) (by kernel_rfl) (by kernel_rfl) (fun _ _ _ h => h) (by assumption) (by rfl) ?_
              simp only [Act.put, List.setIfInBounds_toArray, List.set_cons_zero, List.set_cons_succ]
              first
                | (refine held_take 45 181 (v := ?_) rfl rfl (by kernel_rfl) (by kernel_rfl) (by kernel_rfl) (fun _ _ _ h => h) (by assumption) (by rfl) ?_ ?_; rotate_left; (focus (intro w hSw; (try dsimp only at hSw); go_simp <;> with_reducible rfl)))
                | refine held_pass 45 181 rfl rfl (by kernel_rfl) (by kernel_rfl) (by kernel_rfl) (fun _ _ _ h => h) (by assumption) (by rfl) ?_
              simp only [Act.put, List.setIfInBounds_toArray, List.set_cons_zero, List.set_cons_succ]
              first
                | (refine held_take 46 182 (v := ?_) rfl rfl (by kernel_rfl) (by kernel_rfl) (by kernel_rfl) (fun _ _ _ h => h) (by assumption) (by rfl) ?_ ?_; rotate_left; (focus (intro w hSw; (try dsimp only at hSw); go_simp <;> with_reducible rfl)))
                | refine held_pass 46 182 rfl rfl (by kernel_rfl) (by kernel_rfl) (by kernel_rfl) (fun _ _ _ h => h) (by assumption) (by rfl) ?_
              simp only [Act.put, List.setIfInBounds_toArray, List.set_cons_zero, List.set_cons_succ]
              first
                | (refine held_take 47 183 (v := ?_) rfl rfl (by kernel_rfl) (by kernel_rfl) (by kernel_rfl) (fun _ _ _ h => h) (by assumption) (by rfl) ?_ ?_; rotate_left; (focus (intro w hSw; (try dsimp only at hSw); go_simp <;> with_reducible rfl)))
                | refine held_pass 47 183 rfl rfl (by kernel_rfl) (by kernel_rfl) (by kernel_rfl) (fun _ _ _ h => h) (by assumption) (by rfl) ?_
              simp only [Act.put, List.setIfInBounds_toArray, List.set_cons_zero, List.set_cons_succ]
              first
                | (refine held_take 48 184 (v := ?_) rfl rfl (by kernel_rfl) (by kernel_rfl) (by kernel_rfl) (fun _ _ _ h => h) (by assumption) (by rfl) ?_ ?_; rotate_left; (focus (intro w hSw; (try dsimp only at hSw); go_simp <;> with_reducible rfl)))
                | refine held_pass 48 184 rfl rfl (by kernel_rfl) (by kernel_rfl) (by kernel_rfl) (fun _ _ _ h => h) (by assumption) (by rfl) ?_
              simp only [Act.put, List.setIfInBounds_toArray, List.set_cons_zero, List.set_cons_succ]
              refine wpAnyH_done (by kernel_rfl) ?_ _
              clear S5 S6 I1 I2 IK BB BC CR L2 L3 x1 y1 y3
              go_wp2
              go_roundw
              all_goals first
                | exact ⟨k + 1, N, hlt, by omega, by go_num, hN, HLN, S7.out⟩
                | (simp [intOf] <;> omega)
      · have hlim : (100 : Int) ≤ (k : Int) := by omega
        clear h100
        go_wp2_with fail
        refine (HT.out _).mono ?_
        rintro e w3 ⟨rfl, hb⟩
        have B3 := Lib.hid (HB.out.bel.trans (hb.mono HB.out.1.size))
        clear hb
        go_wp2
        go_returns
        exact ⟨rfl, B3.out⟩
    · have hle : (len : Int) ≤ (k : Int) := by omega
      clear hlt
      go_wp2_with fail
      refine (HT.out _).mono ?_
      rintro e w3 ⟨rfl, hb⟩
      have B3 := Lib.hid (HB.out.bel.trans (hb.mono HB.out.1.size))
      clear hb
      go_wp2
      go_returns
      exact ⟨rfl, B3.out⟩
theorem walk (v : Value) (l : List StepV) (w : World) (h : Steps w w.heap.size v l) :
    Calls Try.prog 3 #[v] w fun e w' => e = .returned (.bool true) ∧ Below w.heap.size w w' := by
  have h' := h
  obtain ⟨ao, cap, rfl, _⟩ := h'
  exact main l _ ao cap w h

set_option maxRecDepth 100000 in
theorem lifted (os : Os) (started : os.Started) (H : Type) (enc : TypeId × Value → H) :
    ReturnsInHanded {} Try.checked os 3 .any (Rows.bookPlaysSpec.pre6 enc Try.prog Try.f3 Rows.bookPlaysRow.domain false) (Rows.bookPlaysSpec.post enc Try.prog Try.f3 false true false false) := by
  refine returnsInHanded_of_change (C := Try.checked) own started (by kernel_rfl) Try.func3
    (ChangeSpec.witness6 (enc := enc) (C := Try.checked) false ⟨#[], #[.slice none 0 0], []⟩ 8 (by kernel_rfl) (by kernel_rfl) (by kernel_rfl) (by kernel_rfl)) ?_
  intro W base args ds gs before hval0 hW hcnd _
  have hval : ∀ (j : Nat) t v, Try.f3.params[j]? = some t → args[j]? = some v → Value.okWide Try.prog W .any base t v := hval0
  have hW' := hW
  obtain ⟨p, q, hA0, hV, rfl, hfz, hnd⟩ := hW
  have hA : DataW.TrodAll enc Try.prog W 0 (fun _ => true) true Try.f3.params.toList args.toList ds p := hA0
  rw [Try.params3] at hA hval
  obtain ⟨v0, vs0, d0, ds0, p0, q0, hargs, rfl, rfl, h0, r0⟩ := trodAll_cons hA
  obtain ⟨rfl, rfl, rfl⟩ := trodAll_nil r0
  obtain rfl : args = #[v0] := by cases args; simp_all
  obtain ⟨rfl, rfl⟩ := trodVars_none hV
  obtain ⟨a0, len0, cap0, rfl⟩ := okWide_slice Try.underlying22 (hval 0 22 v0 rfl rfl)
  have k0 := h0
  have lt0 : ∀ x ∈ p0, x.block < W.heap.size := by obtain ⟨m, hm⟩ := k0; exact DataW.trod_lt m _ _ _ hm
  obtain ⟨l0, w0⟩ := steps_open h0
  clear hA0 hval0
  refine (walk (.slice a0 len0 cap0) l0 W w0).mono fun e W' ⟨he, bel⟩ => ?_
  subst he
  exact ⟨_, rfl, _, _, _, [], _, [], hW', trodAll_mk1 (shut_bool Try.underlying4 _), (trodAll_cons_mk (Below.trod laidOut (by kernel_rfl) (of_decide_eq_true (by kernel_rfl)) k0 bel lt0) trodAll_mk0), rfl, bel.frame _, fun h => by cases h⟩

theorem over : Rows.bookPlaysRow.holds Try.pinned (OpenSpec.ofChange Rows.bookPlaysSpec) :=
  OpenClaim.holds_of_wide 3 Try.f3 rfl rfl rfl rfl rfl rfl rfl ⟨rfl, rfl, rfl, rfl, rfl⟩ rfl rfl rfl rfl rfl (by kernel_rfl) Try.func3 (by kernel_rfl)
    (of_decide_eq_true (by kernel_rfl)) (by unfold Func.isWrapper; first | (rw [if_pos (by decide +kernel)]; kernel_rfl) | (rw [if_neg (by decide +kernel)]; exact ⟨rfl, rfl⟩))
    (fun os started H enc _ => lifted os started H enc)
end Go.Proofs.Ytkieifkbkmdgdaa.BookPlays

namespace Go.Proofs.Ytkieifkbkmdgdaa
theorem bookPlays_holds : Rows.BookPlaysSaid := BookPlays.over
#print axioms bookPlays_holds
end Go.Proofs.Ytkieifkbkmdgdaa
