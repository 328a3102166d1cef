/-
  Ballots of any nodes in turn, each the next one of the last, rise, and no two are alike (11.1, 11.2), as BallotRise says: for any ints. No condition.
-/
import Derived.Test.YtejnphfjlphpiaaBallotArgs
import Derived.Test.YtejnphfjlphpiaaBallotT
import Derived.Test.YtejnphfjlphpiaaClockW
import Derived.Test.YtejnphfjlphpiaaClockArgs
namespace Go.Proofs.Ytejnphfjlphpiaa.BallotRise
open Go.ChangeShapes Go.WideShapes Go.ChangeAt Go.RowKit

def bCells (L : List (Int × Int)) : List Value := L.flatMap fun p => [.int .i64 p.1, .int .i64 p.2]
def bAt (L : List (Int × Int)) (j : Nat) : Int × Int := L.getD j (0, 0)
theorem bCells_length (L : List (Int × Int)) : (bCells L).length = L.length * 2 := by
  unfold bCells
  induction L with
  | nil => rfl
  | cons v L ih => rw [List.flatMap_cons, List.length_append, ih]; simp; omega
theorem bCells_append (A C : List (Int × Int)) : bCells (A ++ C) = bCells A ++ bCells C := by simp [bCells]
theorem bCells_get (L : List (Int × Int)) : ∀ j, j < L.length → (bCells L)[j * 2]? = some (.int .i64 (bAt L j).1) ∧ (bCells L)[j * 2 + 1]? = some (.int .i64 (bAt L j).2) := by
  induction L with
  | nil => intro j hj; simp at hj
  | cons v L ih =>
    intro j hj
    cases j with
    | zero => exact ⟨rfl, rfl⟩
    | succ j =>
      have := ih j (by simpa using hj)
      have e : bCells (v :: L) = [.int .i64 v.1, .int .i64 v.2] ++ bCells L := rfl
      rw [e, show (j + 1) * 2 = j * 2 + 2 by omega, List.getElem?_append_right (by simp), List.getElem?_append_right (by simp)]
      exact this
theorem bAt_mem (L : List (Int × Int)) (j : Nat) (hj : j < L.length) : bAt L j ∈ L := by
  have : bAt L j = L[j] := by simp [bAt, List.getD, hj]
  rw [this]
  exact List.getElem_mem hj

theorem info_Ballot : (Try.prog.info? 23).map (fun i => (i.zero, i.size, i.bytes)) = some (some (.agg #[.int .i64 0, .int .i64 0]), 2, 16) := by kernel_rfl

theorem bsrc1 (w : World) (x y : Int) : Src Try.prog 2 45 (.slice (some ⟨w.heap.size, 0, none⟩) 1 1) 1 (bCells [(x, y)]) (w.alloc (.cells #[.int .i64 x, .int .i64 y] 23)) := by
  have hB := (BalB.fresh w x y).cells
  refine Src.ofSlice _ Try.underlying45 ⟨w.heap.size, 0, none⟩ 1 1 (bCells [(x, y)]) rfl ?_ ?_
  · intro j u hu
    rw [Addr.add_lit, Nat.zero_add]
    match j, hu with
    | 0, hu => obtain rfl : Value.int .i64 x = u := by simpa [bCells] using hu
               exact hB.1
    | 1, hu => obtain rfl : Value.int .i64 y = u := by simpa [bCells] using hu
               exact hB.2.1
    | j + 2, hu => simp [bCells] at hu
  · intro u hu
    simp only [bCells, List.flatMap_cons, List.flatMap_nil, List.append_nil, List.mem_cons, List.not_mem_nil, or_false] at hu
    rcases hu with rfl | rfl <;> rfl

/-- The row of all, and the last of them; each of the row is no greater than the last. -/
structure Inv (w0 w : World) (i : Nat) (v : Value) (L : List (Int × Int)) (r n : Int) : Prop where
  len : L.length = i
  row : w.ownsRow (w0.heap.size + 1) 23 2 v i (bCells L)
  b : BalB w w0.heap.size r n
  r0 : 0 ≤ r
  r1 : r ≤ i
  n0 : 0 ≤ n
  n1 : n < 5
  le : ∀ p ∈ L, p.1 < r ∨ p.1 = r ∧ p.2 ≤ n
  bel : Below w0.heap.size w0 w
theorem Inv.at {w0 w : World} {i c : Nat} {a : Option Addr} {L : List (Int × Int)} {r n : Int} (h : Inv w0 w i (.slice a i c) L r n) (k : Nat) (hk : k < i) :
    ∃ g, a = some ⟨g, 0, none⟩ ∧ g < w.heap.size ∧ w.cell? ⟨g, k * 2, none⟩ = some (.int .i64 (bAt L k).1) ∧ w.cell? ⟨g, k * 2 + 1, none⟩ = some (.int .i64 (bAt L k).2) := by
  rcases h.row.2 with ⟨_, h0⟩ | ⟨g, cap, cur, he, hg, hh, hle, hmax, hsz, htake⟩
  · omega
  · simp only [Value.slice.injEq] at he
    obtain ⟨rfl, _, rfl⟩ := he
    have hx := bCells_get L k (by rw [h.len]; exact hk)
    have h1 := h.row.cells (g := g) rfl _ _ hx.1
    have h2 := h.row.cells (g := g) rfl _ _ hx.2
    rw [Addr.add_lit] at h1 h2
    rw [Nat.zero_add] at h1 h2
    exact ⟨g, rfl, lt_of_block hh, h1, h2⟩

theorem own_stay {w w' : World} {base : Nat} {e : TypeId} {size : Nat} {v : Value} {n : Nat} {xs : List Value} (h : w.ownsRow base e size v n xs) (hb : Below w.heap.size w w') : w'.ownsRow base e size v n xs :=
  h.kept (row := none) ⟨hb.os, hb.tape, hb.output, hb.size, fun k hk _ => hb.block k hk⟩ (by cases hv : v.ownBlock with | none => exact .inl rfl | some g => exact .inr (by simp))

set_option maxRecDepth 100000 in
set_option maxHeartbeats 8000000 in
theorem walk (v : Value) (l : List Int) (w : World) (hI : Ints w w.heap.size v l) :
    Calls Try.prog 6 #[v] w fun e w' => e = .returned (.bool true) ∧ Below w.heap.size w w' := by
  obtain ⟨i0, hi, hz0, hz1, hz2⟩ := info_parts info_Ballot
  have HT := Lib.hid (fun u => told11_any u)
  obtain ⟨a0, c0, rfl⟩ : ∃ a c, v = .slice a l.length c := by obtain ⟨a, c, h, _⟩ := hI; exact ⟨a, c, h⟩
  obtain ⟨m, hm⟩ : ∃ m, l.length = m := ⟨_, rfl⟩
  have HM := Lib.hid hm
  rw [hm] at hI ⊢
  have HI := Lib.hid hI
  clear hm hI
  go_enter Try.func6, Try.ntmps6
  go_wp2_with fail
  go_loopw [3, 5] (fun s3 s5 wr => ∃ (i : Nat) (a : Option Addr) (c : Nat) (L : List (Int × Int)) (r n : Int), s3 = .slice a i c ∧ s5 = .int .i64 i ∧ i ≤ m ∧ i ≤ 40 ∧ Hid (Inv w wr i (.slice a i c) L r n)) (fun _ s5 _ => m - (intOf s5).toNat)
  case atStart => exact ⟨0, none, 0, [], 0, 0, rfl, rfl, Nat.zero_le _, Nat.zero_le _, ⟨rfl, World.ownsRow_nil _ _ _ _, BalB.fresh w _ _, Int.le_refl _, Int.le_refl _, Int.le_refl _, by decide, (by intro p hp; cases hp), (Below.refl _ w).alloc (Nat.le_refl _) _⟩⟩
  case round =>
    obtain ⟨i, a, c, L, r, n, rfl, rfl, him, hi40, HR⟩ := hrel
    by_cases hlt : i < m
    · by_cases hlt4 : i < 40
      · obtain ⟨lb, lo, rfl, hlb, hlc⟩ : ∃ b off, a0 = some ⟨b, off, none⟩ ∧ b < w.heap.size ∧ wr.cell? ⟨b, off + i, none⟩ = some (.int .i64 (l.getD i 0)) := by
          obtain ⟨ao, cap, he, _, _, _, h4⟩ := HI.out
          simp only [Value.slice.injEq] at he
          obtain ⟨rfl, _, rfl⟩ := he
          obtain ⟨b, off, rfl, hb, hc⟩ := h4 (fun e => by have := HM.out; rw [e] at this; simp at this; omega)
          exact ⟨b, off, rfl, hb, (HR.out.bel.cell (p := ⟨b, off + i, none⟩) hb).trans (hc i (by rw [HM.out]; exact hlt))⟩
        generalize l.getD i 0 = x at hlc
        obtain ⟨q, hq, eq⟩ := left_of x 5 (by decide) (by decide)
        have E : Hid (wrap64 ((IntKind.u64.wrap x).tmod 5) = (q : Int)) := eq
        clear eq
        have hr0 := HR.out.r0
        have hr1 := HR.out.r1
        have hn0 := HR.out.n0
        have hn1 := HR.out.n1
        have hmay : mayV r n = true := mayV_yes.2 (by omega)
        obtain ⟨u, hu⟩ : ∃ u, u = upV r n q := ⟨_, rfl⟩
        have hh : (n < q ∧ u = r) ∨ (q ≤ n ∧ u = r + 1) := by
          rw [hu, upV]
          split <;> omega
        have hnx : nextV r n q = (u, (q : Int), true) := by rw [hu]; exact nextV_yes hmay (by omega) (by omega) (by rw [← hu]; omega)
        have HN := Lib.hid (fun x => vnext_r r n q x hnx)
        have HC := Lib.hid (fun x => vcmp_r r n u q x (cmpV_lt (by omega)))
        have HH := Lib.hid hh
        have HQ := Lib.hid hq
        have hu1 : u ≤ r + 1 := by omega
        have hw : wrap64 (r + 1) = r + 1 := IntWalk.wrap64_in _ (by omega)
        clear hu hh hnx hmay hr0 hr1 hn0 hn1 hq
        obtain ⟨c0, c1, f0, f1⟩ := HR.out.b.cells
        go_wp2_with fail
        rw [E.out]
        clear hlc
        refine (HN.out _).mono ?_
        rintro e w1 ⟨rfl, B1⟩
        have HB1 := Lib.hid B1
        have D1 : Hid (BalB w1 w.heap.size r n) := HR.out.b.keep B1 HR.out.b.lt
        clear B1 c0 c1 f0 f1
        obtain ⟨d0, d1, _, _⟩ := D1.out.cells
        have D1a : Hid (∀ o, BalB (w1.alloc o) w.heap.size r n) := fun o => D1.out.alloc o
        obtain ⟨e0, e1, _, _⟩ := (D1a.out (.cells #[.int .i64 u, .int .i64 q] 23)).cells
        have lt1 := D1.out.lt
        go_wp2_with fail
        refine (HC.out _).mono ?_
        rintro e w2 ⟨rfl, B2⟩
        have F2 : Hid (BalB w2 w1.heap.size u q) := (BalB.fresh w1 _ _).keep B2 (by simp)
        have HB2 : Hid (Below wr.heap.size wr w2) := (HB1.out.alloc HB1.out.size _).trans (B2.mono (by have := HB1.out.size; simp; omega))
        have D2 : Hid (BalB w2 w.heap.size r n) := HR.out.b.keep HB2.out HR.out.b.lt
        have hF : Hid (wr.heap.size ≤ w1.heap.size) := HB1.out.size
        clear B2 HB1 D1 D1a d0 d1 e0 e1
        obtain ⟨d0, d1, _, _⟩ := D2.out.cells
        obtain ⟨e0, e1, _, _⟩ := F2.out.cells
        go_wp2_with fail
        clear d0 d1 e0 e1
        obtain ⟨wo, hwo⟩ : ∃ wo, wo = wr := ⟨_, rfl⟩
        subst hwo
        go_loopw [9] (fun s9 wq => ∃ k : Nat, s9 = .int .i64 k ∧ k ≤ i ∧ Hid (Below w2.heap.size w2 wq)) (fun s9 _ => i - (intOf s9).toNat)
        case atStart => exact ⟨0, rfl, Nat.zero_le _, Below.refl _ _⟩
        case round =>
          obtain ⟨k, rfl, hki, HK⟩ := hrel
          have Fq : Hid (BalB wr w1.heap.size u q) := F2.out.keep HK.out F2.out.lt
          by_cases hk : k < i
          · obtain ⟨g, rfl, hg, g0, g1⟩ := HR.out.at k hk
            have hgs := HB2.out.size
            have x0 := (HK.out.cell (p := ⟨g, k * 2, none⟩) (Nat.lt_of_lt_of_le hg hgs)).trans ((HB2.out.cell (p := ⟨g, k * 2, none⟩) hg).trans g0)
            have x1 := (HK.out.cell (p := ⟨g, k * 2 + 1, none⟩) (Nat.lt_of_lt_of_le hg hgs)).trans ((HB2.out.cell (p := ⟨g, k * 2 + 1, none⟩) hg).trans g1)
            have hgq : g < wr.heap.size := Nat.lt_of_lt_of_le hg (Nat.le_trans hgs HK.out.size)
            have hle := HR.out.le _ (bAt_mem L k (by rw [HR.out.len]; exact hk))
            obtain ⟨p, hp⟩ : ∃ p, p = (bAt L k).1 := ⟨_, rfl⟩
            obtain ⟨z, hz⟩ : ∃ z, z = (bAt L k).2 := ⟨_, rfl⟩
            rw [← hp] at x0 hle
            rw [← hz] at x1 hle
            have hlt2 : p < u ∨ p = u ∧ z < q := by have := HH.out; omega
            have HC2 := Lib.hid (fun x => vcmp_r p z u q x (cmpV_lt hlt2))
            have HEQ : Hid (∀ x, (binOp .eql 23 (.agg #[.int .i64 p, .int .i64 z]) (.agg #[.int .i64 u, .int .i64 q])).run Try.prog x = .ok (.bool false) x) := fun x => by
              rw [run_eq_ballot]
              rcases hlt2 with h | ⟨h, h'⟩
              · rw [beq_eq_false_iff_ne.2 (by omega : p ≠ u)]; rfl
              · rw [beq_eq_false_iff_ne.2 (by omega : z ≠ (q : Int))]; simp
            have X0 := Lib.hid x0
            have X1 := Lib.hid x1
            have FX : Hid (∀ y, Below wr.heap.size wr y → y.cell? ⟨g, k * 2, none⟩ = some (.int .i64 p) ∧ y.cell? ⟨g, k * 2 + 1, none⟩ = some (.int .i64 z) ∧ y.cell? ⟨w1.heap.size, 0, none⟩ = some (.int .i64 u) ∧ y.cell? ⟨w1.heap.size, 1, none⟩ = some (.int .i64 q)) := fun y hy =>
              ⟨(hy.cell (p := ⟨g, k * 2, none⟩) hgq).trans X0.out, (hy.cell (p := ⟨g, k * 2 + 1, none⟩) hgq).trans X1.out, (Fq.out.keep hy Fq.out.lt).cells.1, (Fq.out.keep hy Fq.out.lt).cells.2.1⟩
            have P0 : Below wr.heap.size wr wr.drew := (Below.refl _ _).drew
            have k0 : (0 : Int) ≤ (k : Int) := by omega
            have k1 : (k : Int) < (i : Int) := by omega
            clear hp hz hle hlt2 x0 x1 g0 g1 hg hgs hgq
            go_wp2_with fail
            refine region_quiet (fun v => Below wr.heap.size wr v) (by kernel_rfl) (by kernel_rfl) P0 ?_
            repeat (first
              | go_big_quiet_skip
              | (go_big_quiet_want
                 (first
                  | (refine quiet_run (v := ?_) ?_ ?_; rotate_left; (intro u hu; obtain ⟨c0, c1, e0, e1⟩ := FX.out u hu; go_simp <;> with_reducible rfl); simp only [Act.put, List.setIfInBounds_toArray, List.set_cons_zero, List.set_cons_succ]; go_big_quiet_on)
                  | (refine quiet_enter 12 _ ?_ (fun u hu => (HC2.out u).mono fun e u' ⟨he, hb⟩ => ⟨he, hu.trans (hb.mono hu.size)⟩) ?_; (focus (intro u; first | (go_simp; done) | (go_simp; with_reducible rfl))); simp only [Act.put, List.setIfInBounds_toArray, List.set_cons_zero, List.set_cons_succ]; go_big_quiet_on)
                  | ((refine quiet_run (v := .bool false) (fun u hu => exec_eq_agg _ _ (by kernel_rfl) rfl rfl rfl (HEQ.out u)) ?_); simp only [Act.put, List.setIfInBounds_toArray, List.set_cons_zero, List.set_cons_succ]; go_big_quiet_on))))
            refine wpQuiet_nil ?_
            intro w4 h4
            have C4 : Hid (Below w2.heap.size w2 w4) := HK.out.trans (h4.mono HK.out.size)
            clear P0 FX h4
            go_wp2
            go_roundw
            case rel => exact ⟨k + 1, by go_num, by omega, C4.out⟩
            case measure => simp [intOf]; omega
          · obtain rfl : k = i := by omega
            have HBq : Hid (Below wo.heap.size wo wr) := HB2.out.trans (HK.out.mono HB2.out.size)
            have Dq : Hid (BalB wr w.heap.size r n) := HR.out.b.keep HBq.out HR.out.b.lt
            have HRow := Lib.hid (own_stay HR.out.row HBq.out)
            obtain ⟨e0, e1, _, _⟩ := Fq.out.cells
            go_wp2_with (at_builtin; refine wpList_append_own_src rfl (.tmp 77) (.tmp 79) 45 45 rfl (w.heap.size + 1) 23 i0 (.agg #[.int .i64 0, .int .i64 0]) 2 16 Try.underlying45 hi hz0 hz1 hz2 rfl _ _ _ rfl (HRow.out.alloc _) _ 1 (bCells [(u, (q : Int))]) rfl (bsrc1 wr _ _) ?c3 ?c4 ?c5 ?_)
            case c3 => unfold maxLen; omega
            case c4 => omega
            case c5 => have := Dq.out.lt; simp; omega
            intro v' w5 hown hgrow
            obtain ⟨a', c', rfl⟩ := own_shape hown
            have Dn : ∀ y, Value.ownBlock (.slice a k c) = some y → w.heap.size + 1 ≤ y ∧ y < wo.heap.size := fun y hy => HR.out.row.lt y hy
            have D5 : Hid (BalB w5 w.heap.size r n) := (Dq.out.alloc _).kept hgrow (fun e => by have := (Dn _ e.symm).1; omega)
            have F5 : Hid (BalB w5 w1.heap.size u q) := (Fq.out.alloc _).kept hgrow (fun e => by have := (Dn _ e.symm).2; have := hF.out; omega)
            have C5 : Hid (Below w.heap.size w w5) := (((HR.out.bel.trans (HBq.out.mono HR.out.bel.size)).alloc (Nat.le_of_lt Dq.out.lt) _)).grown hgrow (by have := Dq.out.lt; simp; omega) (fun y hy => by have := (Dn y hy).1; omega)
            have HO := Lib.hid hown
            clear hown hgrow Dn e0 e1
            obtain ⟨e0, e1, _, _⟩ := F5.out.cells
            go_wp2_with (refine store_bal rfl (.tmp 4) (.tmp 81) rfl w.heap.size rfl u q rfl D5.out ?_)
            intro w8 H8 G8
            have HI8 : Hid (Inv w w8 (k + 1) (.slice a' (k + 1) c') (L ++ [(u, (q : Int))]) u q) := by
              have h1 := HR.out.r0
              have h2 := HR.out.r1
              have h3 := HH.out
              have h4 := HQ.out
              refine ⟨by rw [List.length_append, HR.out.len]; rfl, ?_, H8, by omega, by omega, by omega, by omega, ?_, C5.out.grown G8 (Nat.le_of_lt D5.out.lt) (fun y hy => by cases hy; omega)⟩
              · rw [bCells_append]
                refine HO.out.kept G8 ?_
                cases hy : Value.ownBlock (.slice a' (k + 1) c') with
                | none => exact .inl rfl
                | some y => exact .inr (fun e => by have := (HO.out.lt y hy).1; cases e; omega)
              · intro p hp
                rcases List.mem_append.1 hp with hp | hp
                · have := HR.out.le p hp
                  omega
                · obtain rfl : p = (u, (q : Int)) := by simpa using hp
                  exact .inr ⟨rfl, Int.le_refl _⟩
            clear H8 G8
            go_wp2
            go_roundw
            case rel => exact ⟨k + 1, a', c', L ++ [(u, (q : Int))], u, q, rfl, by go_num, by omega, by omega, HI8.out⟩
            case measure => simp [intOf]; omega
      · go_wp2_with fail
        refine (HT.out _).mono ?_
        rintro e w1 ⟨rfl, B1⟩
        have CF : Hid (Below w.heap.size w w1) := HR.out.bel.trans (B1.mono HR.out.bel.size)
        clear B1
        go_wp2
        go_returns
        exact ⟨rfl, CF.out⟩
    · go_wp2_with fail
      refine (HT.out _).mono ?_
      rintro e w1 ⟨rfl, B1⟩
      have CF : Hid (Below w.heap.size w w1) := HR.out.bel.trans (B1.mono HR.out.bel.size)
      clear B1
      go_wp2
      go_returns
      exact ⟨rfl, CF.out⟩

set_option maxRecDepth 100000 in
theorem lifted (os : Os) (started : os.Started) (H : Type) (enc : TypeId × Value → H) :
    ReturnsInHanded {} Try.checked os 6 .any (Rows.ballotRiseSpec.pre6 enc Try.prog Try.f6 Rows.ballotRiseRow.domain false) (Rows.ballotRiseSpec.post enc Try.prog Try.f6 false true false false) := by
  refine returnsInHanded_of_change (C := Try.checked) own started (by kernel_rfl) Try.func6
    (ChangeSpec.witness6 (enc := enc) (C := Try.checked) false ⟨#[], #[.slice none 0 0], []⟩ 8 (by kernel_rfl) (by kernel_rfl) (by kernel_rfl) (by kernel_rfl)) ?_
  intro W base args ds gs before hval0 hW hcnd _
  have hval : ∀ (j : Nat) t v, Try.f6.params[j]? = some t → args[j]? = some v → Value.okWide Try.prog W .any base t v := hval0
  have hW' := hW
  obtain ⟨p, q, hA0, hV, rfl, hfz, hnd⟩ := hW
  have hA : DataW.TrodAll enc Try.prog W 0 (fun _ => true) true Try.f6.params.toList args.toList ds p := hA0
  rw [Try.params6] at hA hval
  obtain ⟨v0, vs0, d0, ds0, p0, q0, hargs, rfl, rfl, h0, r0⟩ := trodAll_cons hA
  obtain ⟨rfl, rfl, rfl⟩ := trodAll_nil r0
  obtain rfl : args = #[v0] := by cases args; simp_all
  obtain ⟨rfl, rfl⟩ := trodVars_none hV
  obtain ⟨a0, len0, cap0, rfl⟩ := okWide_slice Try.underlying44 (hval 0 44 v0 rfl rfl)
  have k0 := h0
  have lt0 : ∀ x ∈ p0, x.block < W.heap.size := by obtain ⟨m, hm⟩ := k0; exact DataW.trod_lt m _ _ _ hm
  obtain ⟨l0, w0⟩ := cints_open h0
  clear hA0 hval0
  refine (walk (.slice a0 len0 cap0) l0 W w0).mono fun e W' ⟨he, bel⟩ => ?_
  subst he
  exact ⟨_, rfl, _, _, _, [], _, [], hW', trodAll_mk1 (shut_bool Try.underlying4 _), (trodAll_cons_mk (Below.trod laidOut (by kernel_rfl) (of_decide_eq_true (by kernel_rfl)) k0 bel lt0) trodAll_mk0), rfl, bel.frame _, fun h => by cases h⟩

theorem over : Rows.ballotRiseRow.holds Try.pinned (OpenSpec.ofChange Rows.ballotRiseSpec) :=
  OpenClaim.holds_of_wide 6 Try.f6 rfl rfl rfl rfl rfl rfl rfl ⟨rfl, rfl, rfl, rfl, rfl⟩ rfl rfl rfl rfl rfl (by kernel_rfl) Try.func6 (by kernel_rfl)
    (of_decide_eq_true (by kernel_rfl)) (by unfold Func.isWrapper; first | (rw [if_pos (by decide +kernel)]; kernel_rfl) | (rw [if_neg (by decide +kernel)]; exact ⟨rfl, rfl⟩))
    (fun os started H enc _ => lifted os started H enc)
end Go.Proofs.Ytejnphfjlphpiaa.BallotRise

namespace Go.Proofs.Ytejnphfjlphpiaa
theorem ballotRise_holds : Rows.BallotRiseSaid := BallotRise.over
#print axioms ballotRise_holds
end Go.Proofs.Ytejnphfjlphpiaa
