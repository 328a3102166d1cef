/-
  PROVED: casebooklaw7.DiskPlays answers true and leaves its argument as it was, for any steps: the row's own reading and nothing else is assumed.
-/
import Derived.Test.YtgbfpabmkjkgnaaDiskQ
import Derived.Test.YtgbfpabmkjkgnaaDiskArgs
import Derived.Test.YtgbfpabmkjkgnaaHeld
namespace Go.Proofs.Ytgbfpabmkjkgnaa.DiskPlays
open Go.ChangeShapes Go.WideShapes Go.ChangeAt Go.RowKit

theorem seq_k {P : Program} {x y : Code} {Q : Exit → Act → World → Prop} {a : Act} {w : World} (h : ∀ K : Act → World → Prop, (∀ a w, y.wp P Q a w → K a w) → x.wp P (Exit.then K Q) a w) : (Code.seq x y).wp P Q a w :=
  wp_seq (h _ fun _ _ h => h)

/-- Both disks have the text Z, the first j bytes synced. -/
structure DPl (n : Nat) (w0 : World) (g R : Nat) (Y : List UInt8) (k : Nat) (Z : ByteArray) (u : World) : Prop where
  dk : DkO n w0 g Y k u
  rd : RD u R Z k
  rn : n ≤ R
theorem DPl.on {n : Nat} {w0 u u' : World} {g R : Nat} {Y : List UInt8} {k : Nat} {Z : ByteArray} (h : DPl n w0 g R Y k Z u) (hb : Below u.heap.size u u') : DPl n w0 g R Y k Z u' := ⟨h.dk.on hb, (KD.of hb) _ _ _ (.inl rfl) h.rd, h.rn⟩
theorem DPl.step {n : Nat} {w0 u : World} {g R : Nat} {Y : List UInt8} {k : Nat} {Z : ByteArray} (h : DPl n w0 g R Y k Z u) (kd nn : Int) (bv : Value) : DSt n w0 g R u.heap.size kd nn bv Y k Z k (u.alloc (.cells #[.int .i64 kd, .int .i64 nn, bv] 30)) :=
  ⟨h.dk.on ((Below.refl _ _).alloc (Nat.le_refl _) _), (KD.of ((Below.refl _ _).alloc (Nat.le_refl _) _)) _ _ _ (.inl rfl) h.rd, h.rn, heap_alloc_new u _⟩

theorem take_text {Y : List UInt8} {Z : ByteArray} (h : Z = ⟨Y.toArray⟩) (m : Nat) : Z.extract 0 m = ⟨(Y.take m).toArray⟩ := by
  subst h
  rw [ByteArray.extract_mk]
  simp
/-- Text and bytes are alike, and as many are synced as there are at most. -/
def DSame (Y : List UInt8) (k : Nat) (Z : ByteArray) (lim : Nat) : Prop := Z = ⟨Y.toArray⟩ ∧ Z.size = Y.length ∧ k ≤ Y.length ∧ Y.length ≤ lim

/-- The first cell of a row that the call made. -/
theorem first_cell {w : World} {base : Nat} {a : Option Addr} {c : Nat} {l : List UInt8} (h : w.ownsRow base 5 1 (.slice a l.length c) l.length (Lib.byteCells l)) (h0 : 0 < l.length) :
    ∃ b, a = some ⟨b, 0, none⟩ ∧ base ≤ b ∧ (∃ y : Nat, w.cell? ⟨b, 0, none⟩ = some (.int .u8 y)) ∧ w.frozen? ⟨b, 0, none⟩ = false := by
  rcases h.2 with ⟨_, he⟩ | ⟨g, cap, cur, he, hg, hh, _⟩
  · omega
  · simp only [Value.slice.injEq, true_and] at he
    obtain ⟨rfl, rfl⟩ := he
    refine ⟨g, rfl, hg, ⟨(l.getD 0 0).toNat, ?_⟩, by simp [World.frozen?, hh]⟩
    have := h.cells (g := g) rfl 0 _ (byteCells_get l 0 h0)
    rwa [Addr.add_lit] at this

set_option maxRecDepth 100000 in
set_option maxHeartbeats 8000000 in
theorem main (l : List DStepV) (len : Nat) (a : Option Addr) (c : Nat) (w : World) (hI : DSteps w w.heap.size (.slice a len c) l) :
    Calls Try.prog 3 #[.slice a len c] w fun e w' => e = .returned (.bool true) ∧ Below w.heap.size w w' := by
  have HN := Lib.hid (o_new w w w.heap.size (Below.refl _ _) (Nat.le_refl _))
  have HT := Lib.hid (fun u => told7_any u)
  have kc := fun (w : World) (C : Array Value) (n c : Nat) => Lib.run_convert_bytes_const (P := Try.prog) w 28 5 C n c Try.underlying28 Try.underlying5
  have KC := Lib.hid kc
  obtain ⟨n, hn⟩ : ∃ n, n = w.heap.size := ⟨_, rfl⟩
  rw [← hn] at HN hI ⊢
  obtain ⟨_, _, hv, hlen, hfits, hcells⟩ := hI
  cases hv
  obtain ⟨len, hl⟩ : ∃ len, len = l.length := ⟨_, rfl⟩
  rw [← hl]
  have HL := Lib.hid hl
  have HF := Lib.hid hfits
  have HC := Lib.hid hcells
  clear hfits hcells hl hlen hn kc
  go_enter Try.func3, Try.ntmps3
  go_wp2_with fail
  refine HN.out.mono ?_
  rintro e w1 ⟨rfl, hb⟩
  have B1 : Hid (DPl n w n w1.heap.size [] 0 ⟨#[]⟩ (w1.alloc (.cells #[.string ⟨#[]⟩, .int .i64 0] 27 (0, 0)))) := ⟨hb.on ((Below.refl _ _).alloc (Nat.le_refl _) _), heap_alloc_new _ _, hb.size⟩
  clear hb
  go_wp2_with fail
  generalize hR : w1.heap.size = R at B1 ⊢
  have S0 : Hid (DSame [] 0 ⟨#[]⟩ (50 * 0)) := ⟨rfl, rfl, Nat.le_refl _, Nat.le_refl _⟩
  clear HN hR
  go_loopw [3, 5] (fun vd vi wr => ∃ (g k j : Nat) (Y : List UInt8) (Z : ByteArray), vd = .pointer (some ⟨g, 0, none⟩) ∧ vi = .int .i64 k ∧ k ≤ len ∧ k ≤ 60 ∧ Hid (DSame Y j Z (50 * k)) ∧ DPl n w g R Y j Z wr) (fun _ vi _ => 200 - (intOf vi).toNat)
  case atStart => exact ⟨n, 0, 0, [], ⟨#[]⟩, rfl, rfl, by omega, by omega, S0, B1.out⟩
  case round =>
    obtain ⟨g, k, j, Y, Z, rfl, rfl, hk, hk60, SS, hb⟩ := hrel
    have HB := Lib.hid hb
    clear hb B1 S0
    by_cases hlt : k < len
    · by_cases h60 : (k : Int) < 60
      · have hkl : k < l.length := by rw [← HL.out]; exact hlt
        obtain ⟨b, off, rfl, hbw, hc⟩ := HC.out (List.length_pos_iff.1 (Nat.lt_of_le_of_lt (Nat.zero_le k) hkl))
        have hby := HF.out _ (List.getElem_mem hkl)
        have hco := (hc k hkl).keep HB.out.dk.bel hbw
        obtain ⟨⟨kd, nn, bv, bl⟩, ho⟩ : ∃ o, o = l[k] := ⟨_, rfl⟩
        rw [← ho] at hco hby
        obtain ⟨q0, q1, q2⟩ := hco
        dsimp only at q0 q1 q2 hby
        have HY := Lib.hid hby
        obtain ⟨ba, bc, rfl, _⟩ := hby
        have k0 : (0 : Int) ≤ (k : Int) := by omega
        have k1 : (k : Int) < (len : Int) := by omega
        clear ho hc
        go_upto_region 8 with fail
        go_cut [6] (fun s6 wc => ∃ p, s6 = .pointer (some ⟨p, 0, none⟩) ∧ Hid (DSt n w g R p kd nn (.slice ba bl.length bc) Y j Z j wc))
        case first =>
          go_wp2_with fail
          go_meet
          exact ⟨_, rfl, HB.out.step _ _ _⟩
        case rest =>
          obtain ⟨p, rfl, HS⟩ := hcut
          rename_i K hK
          refine hK _ _ ?_
          clear hK K HB q0 q1 q2
          refine seq_k (fun K hK => ?_)
          go_cut [3] (fun s3 wd => ∃ (g' j' : Nat) (Y' : List UInt8) (Z' : ByteArray), s3 = .pointer (some ⟨g', 0, none⟩) ∧ Hid (DSame Y' j' Z' (50 * (k + 1))) ∧ Hid (DSt n w g' R p kd nn (.slice ba bl.length bc) Y' j' Z' j' wd))
          case first =>
            clear hK K
            obtain ⟨hZY, hZs, hjY, hYl⟩ := SS.out
            obtain ⟨z0, z1, z2⟩ := HS.out.cells
            have hY3 : Y.length ≤ 3000 := by omega
            by_cases e0 : kd = 0
            · subst e0
              by_cases h50 : bl.length ≤ 50
              · obtain ⟨T, hT⟩ : ∃ T : ByteArray, T = ⟨bl.toArray⟩ := ⟨_, rfl⟩
                obtain ⟨Z', hZ⟩ : ∃ Z' : ByteArray, Z' = ⟨(Y ++ bl).toArray⟩ := ⟨_, rfl⟩
                have hadd : (Op.stringOp .add Z T).run Try.prog = fun u => .ok (.string Z') u := by
                  funext u
                  rw [run_string_add_sum (P := Try.prog) (w := u) Z T (by rw [hZs, hT]; show _ + bl.toArray.size ≤ _; rw [List.size_toArray]; omega), hZY, hT, ByteArray.mk_append_mk, hZ]
                have D1 : Hid (∀ u, DSt n w g R p 0 nn (.slice ba bl.length bc) Y j Z j u → Calls Try.prog 9 #[.pointer (some ⟨g, 0, none⟩), .slice ba bl.length bc] u fun e w' => e = .returned (.tuple #[]) ∧ DSt n w g R p 0 nn (.slice ba bl.length bc) (Y ++ bl) j Z j w') :=
                  fun u hu => s_append hu (HY.out.keep hu.dk.bel) (by omega)
                have KB : Hid (∀ u, DSt n w g R p 0 nn (.slice ba bl.length bc) (Y ++ bl) j Z j u → (convert 28 9 (.slice ba bl.length bc)).run Try.prog u = .ok (.string T) u) :=
                  fun u hu => by rw [hT]; exact run_conv_byt (HY.out.keep hu.dk.bel)
                have S9 : Hid (DSame (Y ++ bl) j Z' (50 * (k + 1))) := ⟨hZ, by rw [hZ]; exact List.size_toArray .., by rw [List.length_append]; omega, by rw [List.length_append]; omega⟩
                clear hT hZ hZY hZs hjY hYl
                go_wp2_with fail
                all_goals first
                  | (exfalso; omega)
                  | skip
                refine (D1.out _ HS.out).mono ?_
                rintro e w3 ⟨rfl, hb⟩
                have S3 := Lib.hid hb
                obtain ⟨y0, y1, y2⟩ := hb.cells
                obtain ⟨x0, x1, x2, x3⟩ := hb.rd.cells
                have kb := KB.out _ hb.drew
                clear hb z0 z1 z2 HS D1 KB
                go_upto_region 20 with fail
                go_region
                go_wp2
                go_meet
                exact ⟨_, _, _, _, rfl, S9, S3.out.drew.setS Z'⟩
              · clear hZY hZs hjY hYl
                go_wp2_with fail
                all_goals first
                  | (exfalso; omega)
                  | skip
                refine (HT.out _).mono ?_
                rintro e w3 ⟨rfl, hb⟩
                have B3 := Lib.hid (HS.out.dk.bel.trans (hb.mono HS.out.dk.size))
                clear hb
                go_wp2
                go_returns
                exact ⟨rfl, B3.out⟩
            · have b0 : (kd == 0) = false := beq_eq_false_iff_ne.2 e0
              by_cases e1 : kd = 1
              · subst e1
                have D1 : Hid (∀ u, DSt n w g R p 1 nn (.slice ba bl.length bc) Y j Z j u → Calls Try.prog 10 #[.pointer (some ⟨g, 0, none⟩)] u fun e w' => e = .returned (.tuple #[]) ∧ DSt n w g R p 1 nn (.slice ba bl.length bc) Y Y.length Z j w') := fun u hu => s_sync hu
                have SJ : Hid (∀ u, DSt n w g R p 1 nn (.slice ba bl.length bc) Y Y.length Z j u → DSt n w g R p 1 nn (.slice ba bl.length bc) Y Y.length Z Y.length (u.setCell ⟨R, 1, none⟩ (.int .i64 (Z.size : Int)))) := fun u hu => by rw [hZs]; exact hu.setJ _
                have S9 : Hid (DSame Y Y.length Z (50 * (k + 1))) := ⟨hZY, hZs, Nat.le_refl _, by omega⟩
                clear hZY hZs hjY hYl e0
                go_wp2_with fail
                refine (D1.out _ HS.out).mono ?_
                rintro e w3 ⟨rfl, hb⟩
                have S3 := Lib.hid hb
                obtain ⟨x0, x1, x2, x3⟩ := hb.rd.cells
                clear hb z0 z1 z2 HS D1
                go_wp2
                go_meet
                exact ⟨_, _, _, _, rfl, S9, SJ.out _ S3.out⟩
              · have b1 : (kd == 1) = false := beq_eq_false_iff_ne.2 e1
                by_cases e2 : kd = 2
                · subst e2
                  by_cases hr : 0 ≤ nn ∧ nn ≤ (Y.length : Int)
                  · obtain ⟨m, rfl⟩ : ∃ m : Nat, nn = (m : Int) := ⟨nn.toNat, by omega⟩
                    have hmY : m ≤ Y.length := by omega
                    have D1 : Hid (∀ u, DSt n w g R p 2 m (.slice ba bl.length bc) Y j Z j u → Calls Try.prog 11 #[.pointer (some ⟨g, 0, none⟩), .int .i64 m] u fun e w' => e = .returned (.int .i64 0) ∧ DSt n w g R p 2 m (.slice ba bl.length bc) (Y.take m) m Z j w') := fun u hu => s_cut hu m hmY
                    have S9 : Hid (DSame (Y.take m) m (Z.extract 0 m) (50 * (k + 1))) := ⟨take_text hZY m, by rw [extract_size Z m (by omega), List.length_take]; omega, by rw [List.length_take]; omega, by rw [List.length_take]; omega⟩
                    have d0 : decide ((0 : Int) ≤ (m : Int)) = true := by simp
                    have d1 : decide ((m : Int) ≤ (Z.size : Int)) = true := by simp; omega
                    have m0 : (0 : Int) ≤ (m : Int) := by omega
                    have m1 : (m : Int) ≤ (Z.size : Int) := by omega
                    clear hZY hZs hjY hYl e0 e1 hr
                    go_wp2_with fail
                    refine (D1.out _ HS.out).mono ?_
                    rintro e w3 ⟨rfl, hb⟩
                    have S3 := Lib.hid hb
                    obtain ⟨y0, y1, y2⟩ := hb.cells
                    obtain ⟨x0, x1, x2, x3⟩ := hb.rd.cells
                    clear hb z0 z1 z2 HS D1
                    go_upto_region 26 with fail
                    go_quiet (fail)
                    go_upto_region 29 with fail
                    go_region
                    all_goals
                      go_wp2
                      go_meet
                    all_goals exact ⟨_, _, _, _, rfl, S9, ((S3.out.drewN _).drew.setS _).setJ _⟩
                  · have D1 : Hid (∀ u, DSt n w g R p 2 nn (.slice ba bl.length bc) Y j Z j u → Calls Try.prog 11 #[.pointer (some ⟨g, 0, none⟩), .int .i64 nn] u fun e w' => e = .returned (.int .i64 6) ∧ u = w') := fun u hu => o_out hu.dk nn (by omega)
                    have S9 : Hid (DSame Y j Z (50 * (k + 1))) := ⟨hZY, hZs, hjY, by omega⟩
                    by_cases hn0 : 0 ≤ nn
                    · have d0 : decide ((0 : Int) ≤ nn) = true := by simp; omega
                      have d1 : decide (nn ≤ (Z.size : Int)) = false := by simp; omega
                      obtain ⟨x0, x1, x2, x3⟩ := HS.out.rd.cells
                      clear hZY hZs hjY hYl e0 e1 hr
                      go_wp2_with fail
                      refine (D1.out _ HS.out).mono ?_
                      rintro e w3 ⟨rfl, rfl⟩
                      go_upto_region 26 with fail
                      go_quiet (fail)
                      go_wp2
                      go_meet
                      exact ⟨_, _, _, _, rfl, S9, HS.out.drewN _⟩
                    · have d0 : decide ((0 : Int) ≤ nn) = false := by simp; omega
                      obtain ⟨x0, x1, x2, x3⟩ := HS.out.rd.cells
                      clear hZY hZs hjY hYl e0 e1 hr hn0
                      go_wp2_with fail
                      refine (D1.out _ HS.out).mono ?_
                      rintro e w3 ⟨rfl, rfl⟩
                      go_upto_region 26 with fail
                      go_quiet (fail)
                      go_wp2
                      go_meet
                      exact ⟨_, _, _, _, rfl, S9, HS.out.drewN _⟩
                · have b2 : (kd == 2) = false := beq_eq_false_iff_ne.2 e2
                  by_cases e3 : kd = 3
                  · subst e3
                    obtain ⟨m, hm⟩ : ∃ m, m = crashN Y.length j nn := ⟨_, rfl⟩
                    have hmY : m ≤ Y.length := by rw [hm]; unfold crashN; omega
                    have D1 : Hid (∀ u, DSt n w g R p 3 nn (.slice ba bl.length bc) Y j Z j u → Calls Try.prog 12 #[.pointer (some ⟨g, 0, none⟩), .int .i64 nn] u fun e w' => e = .returned (.tuple #[]) ∧ DSt n w g R p 3 nn (.slice ba bl.length bc) (Y.take m) m Z j w') := fun u hu => by rw [hm]; exact s_crash hu (by omega) nn
                    have D2 : Hid (∀ u, DSt n w g R p 3 nn (.slice ba bl.length bc) (Y.take m) m Z j u → Calls Try.prog 13 #[.pointer (some ⟨R, 0, none⟩), .int .i64 nn] u fun e w' => e = .returned (.tuple #[]) ∧ DSt n w g R p 3 nn (.slice ba bl.length bc) (Y.take m) m (Z.extract 0 m) m w') := by
                      intro u hu
                      have h := s_rcrash hu (by omega) (by omega) nn
                      rwa [hZs, ← hm] at h
                    have S9 : Hid (DSame (Y.take m) m (Z.extract 0 m) (50 * (k + 1))) := ⟨take_text hZY m, by rw [extract_size Z m (by omega), List.length_take]; omega, by rw [List.length_take]; omega, by rw [List.length_take]; omega⟩
                    clear hZY hZs hjY hYl e0 e1 e2 hm hmY
                    go_wp2_with fail
                    refine (D1.out _ HS.out).mono ?_
                    rintro e w3 ⟨rfl, hb⟩
                    have S3 := Lib.hid hb
                    obtain ⟨y0, y1, y2⟩ := hb.cells
                    clear hb z0 z1 z2 HS D1
                    go_wp2_with fail
                    refine (D2.out _ S3.out).mono ?_
                    rintro e w4 ⟨rfl, hb⟩
                    have S4 := Lib.hid hb
                    clear hb S3 D2
                    go_wp2
                    go_meet
                    exact ⟨_, _, _, _, rfl, S9, S4.out⟩
                  · have b3 : (kd == 3) = false := beq_eq_false_iff_ne.2 e3
                    have kc := KC.out
                    have D1 : Hid (∀ u, DSt n w g R p kd nn (.slice ba bl.length bc) Y j Z j u → Calls Try.prog 14 #[.pointer (some ⟨g, 0, none⟩)] u fun e w' => ∃ c, e = .returned (.pointer (some ⟨c, 0, none⟩)) ∧ DSt2 n w g c R p kd nn (.slice ba bl.length bc) Y j Y j Z j w') := fun u hu => s_copy hu (by omega)
                    have D2 : Hid (∀ u c, DSt2 n w g c R p kd nn (.slice ba bl.length bc) Y j Y j Z j u → Calls Try.prog 9 #[.pointer (some ⟨g, 0, none⟩), .slice (some ⟨u.heap.size, 0, none⟩) 4 4] (u.alloc (.cells #[.int .u8 103, .int .u8 111, .int .u8 110, .int .u8 101] 5 (4, 5))) fun e w' => e = .returned (.tuple #[]) ∧ DSt2 n w g c R p kd nn (.slice ba bl.length bc) (Y ++ [103, 111, 110, 101]) j Y j Z j w') :=
                      fun u c hu => s2_append (hu.on ((Below.refl _ _).alloc (Nat.le_refl _) _)) (byt_lit u [103, 111, 110, 101] 5 (4, 5) 4 rfl (by decide)) (by simp; omega)
                    have D3 : Hid (∀ u c, DSt2 n w g c R p kd nn (.slice ba bl.length bc) (Y ++ [103, 111, 110, 101]) j Y j Z j u → Calls Try.prog 12 #[.pointer (some ⟨g, 0, none⟩), .int .i64 0] u fun e w' => e = .returned (.tuple #[]) ∧ DSt n w c R p kd nn (.slice ba bl.length bc) Y j Z j w') :=
                      fun u c hu => s2_crash hu (by simp; omega) 0
                    have S9 : Hid (DSame Y j Z (50 * (k + 1))) := ⟨hZY, hZs, hjY, by omega⟩
                    clear hZY hZs hjY hYl
                    go_wp2_with fail
                    refine (D1.out _ HS.out).mono ?_
                    rintro e w3 ⟨c2, rfl, hb⟩
                    have S3 := Lib.hid hb
                    clear hb z0 z1 z2 HS D1
                    go_wp2_with fail
                    refine (D2.out _ c2 S3.out).mono ?_
                    rintro e w4 ⟨rfl, hb⟩
                    have S4 := Lib.hid hb
                    clear hb S3 D2 kc
                    go_wp2_with fail
                    refine (D3.out _ c2 S4.out).mono ?_
                    rintro e w5 ⟨rfl, hb⟩
                    have S5 := Lib.hid hb
                    clear hb S4 D3
                    go_wp2
                    go_meet
                    exact ⟨_, _, _, _, rfl, S9, S5.out⟩
          case rest =>
            refine hK _ _ ?_
            clear hK K HS SS HT KC HY
            obtain ⟨g', j', Y', Z', rfl, S9, HS⟩ := hcut
            obtain ⟨hZY, hZs, hjY, hYl⟩ := S9.out
            have K5 : Hid (∀ u, DPl n w g' R Y' j' Z' u → Calls Try.prog 15 #[.pointer (some ⟨g', 0, none⟩)] u fun e w' => ∃ a q, e = .returned (.slice a Y'.length q) ∧ (∀ u', Below w'.heap.size w' u' → (convert 28 9 (.slice a Y'.length q)).run Try.prog u' = .ok (.string Z') u') ∧ DPl n w g' R Y' j' Z' w') :=
              fun u hu => (o_bytes hu.dk (by omega)).mono fun e w' ⟨a, q, he, hy, _, hb⟩ => ⟨a, q, he, fun u' hu' => by rw [hZY]; exact run_conv_byt (hy.keep hu'), hu.on hb⟩
            have K6 : Hid (∀ u, DPl n w g' R Y' j' Z' u → Calls Try.prog 16 #[.pointer (some ⟨g', 0, none⟩)] u fun e w' => e = .returned (.int .i64 Z'.size) ∧ u = w') := fun u hu => by rw [hZs]; exact o_len hu.dk
            have K7 : Hid (∀ u, DPl n w g' R Y' j' Z' u → Calls Try.prog 17 #[.pointer (some ⟨g', 0, none⟩)] u fun e w' => e = .returned (.int .i64 j') ∧ u = w') := fun u hu => o_synced hu.dk
            have B9 := Lib.hid (DPl.mk HS.out.dk HS.out.rd HS.out.rn)
            clear hZY hZs hjY hYl HS
            go_upto_region 33 with fail
            refine wp_region_held_drew (S := DPl n w g' R Y' j' Z') (by kernel_rfl) (B9.out.on ⟨rfl, rfl, rfl, Nat.le_refl _, fun _ _ => rfl⟩) (fun hHeld => ?_)
            first
              | (refine held_take 0 133 (v := ?_) rfl rfl (by kernel_rfl) (by kernel_rfl) (by kernel_rfl) (fun _ _ _ h => h) (by assumption) (by rfl) ?_ ?_; rotate_left; (focus (intro w hSw; (obtain ⟨x0, x1, _, _⟩ := (DPl.rd hSw).cells); go_simp <;> with_reducible rfl)))
              | refine held_pass 0 133 rfl rfl (by kernel_rfl) (by kernel_rfl) (by kernel_rfl) (fun _ _ _ h => h) (by assumption) (by rfl) ?_
            simp only [Act.put, List.setIfInBounds_toArray, List.set_cons_zero, List.set_cons_succ]
            first
              | (refine held_take 3 136 (v := ?_) rfl rfl (by kernel_rfl) (by kernel_rfl) (by kernel_rfl) (fun _ _ _ h => h) (by assumption) (by rfl) ?_ ?_; rotate_left; (focus (intro w hSw; (obtain ⟨x0, x1, _, _⟩ := (DPl.rd hSw).cells); go_simp <;> with_reducible rfl)))
              | refine held_pass 3 136 rfl rfl (by kernel_rfl) (by kernel_rfl) (by kernel_rfl) (fun _ _ _ h => h) (by assumption) (by rfl) ?_
            simp only [Act.put, List.setIfInBounds_toArray, List.set_cons_zero, List.set_cons_succ]
            first
              | (refine held_take 4 137 (v := ?_) rfl rfl (by kernel_rfl) (by kernel_rfl) (by kernel_rfl) (fun _ _ _ h => h) (by assumption) (by rfl) ?_ ?_; rotate_left; (focus (intro w hSw; (obtain ⟨x0, x1, _, _⟩ := (DPl.rd hSw).cells); go_simp <;> with_reducible rfl)))
              | refine held_pass 4 137 rfl rfl (by kernel_rfl) (by kernel_rfl) (by kernel_rfl) (fun _ _ _ h => h) (by assumption) (by rfl) ?_
            simp only [Act.put, List.setIfInBounds_toArray, List.set_cons_zero, List.set_cons_succ]
            first
              | (refine held_take 5 138 (v := ?_) rfl rfl (by kernel_rfl) (by kernel_rfl) (by kernel_rfl) (fun _ _ _ h => h) (by assumption) (by rfl) ?_ ?_; rotate_left; (focus (intro w hSw; (obtain ⟨x0, x1, _, _⟩ := (DPl.rd hSw).cells); go_simp <;> with_reducible rfl)))
              | refine held_pass 5 138 rfl rfl (by kernel_rfl) (by kernel_rfl) (by kernel_rfl) (fun _ _ _ h => h) (by assumption) (by rfl) ?_
            simp only [Act.put, List.setIfInBounds_toArray, List.set_cons_zero, List.set_cons_succ]
            first
              | (refine held_take 6 139 (v := ?_) rfl rfl (by kernel_rfl) (by kernel_rfl) (by kernel_rfl) (fun _ _ _ h => h) (by assumption) (by rfl) ?_ ?_; rotate_left; (focus (intro w hSw; (obtain ⟨x0, x1, _, _⟩ := (DPl.rd hSw).cells); go_simp <;> with_reducible rfl)))
              | refine held_pass 6 139 rfl rfl (by kernel_rfl) (by kernel_rfl) (by kernel_rfl) (fun _ _ _ h => h) (by assumption) (by rfl) ?_
            simp only [Act.put, List.setIfInBounds_toArray, List.set_cons_zero, List.set_cons_succ]
            refine held_call 1 134 rfl rfl (by kernel_rfl) (by rfl) (fun K hK => ?_)
            simp only [Go.wp_at_succ, Go.wp_at_zero]
            go_simp
            go_at_call 15
            (with_reducible refine (K5.out _ hHeld).mono ?_)
            rintro e u2 ⟨ax, qx, rfl, hk, hb⟩
            have D2 := Lib.hid hb
            have KX := Lib.hid hk
            clear hb hk
            first | (with_reducible refine hK.out _ _ ?_ (fun hHeld => ?_)) | (go_wp2_with fail; refine hK.out _ _ ?_ (fun hHeld => ?_))
            · exact D2.out
            clear hK K
            try simp only [Act.put, List.setIfInBounds_toArray, List.set_cons_zero, List.set_cons_succ]
            refine held_narrow (S' := fun u => DPl n w g' R Y' j' Z' u ∧ Below u2.heap.size u2 u) (fun _ h => h.1) _ _ _ _ ?_
            have hHeld2 : (fun u => DPl n w g' R Y' j' Z' u ∧ Below u2.heap.size u2 u) u2 := ⟨D2.out, Below.refl _ _⟩
            first
              | (refine held_take 2 135 (v := ?_) rfl rfl (by kernel_rfl) (by kernel_rfl) (by kernel_rfl) (fun _ _ _ h => h) (by assumption) (by rfl) ?_ ?_; rotate_left; (focus (intro w hSw; (obtain ⟨x0, x1, _, _⟩ := (DPl.rd hSw.1).cells; have z3 := KX.out _ hSw.2); go_simp <;> with_reducible rfl)))
              | refine held_pass 2 135 rfl rfl (by kernel_rfl) (by kernel_rfl) (by kernel_rfl) (fun _ _ _ h => h) (by assumption) (by rfl) ?_
            simp only [Act.put, List.setIfInBounds_toArray, List.set_cons_zero, List.set_cons_succ]
            first
              | (refine held_take 7 140 (v := ?_) rfl rfl (by kernel_rfl) (by kernel_rfl) (by kernel_rfl) (fun _ _ _ h => h) (by assumption) (by rfl) ?_ ?_; rotate_left; (focus (intro w hSw; (obtain ⟨x0, x1, _, _⟩ := (DPl.rd hSw.1).cells; have z3 := KX.out _ hSw.2); go_simp <;> with_reducible rfl)))
              | refine held_pass 7 140 rfl rfl (by kernel_rfl) (by kernel_rfl) (by kernel_rfl) (fun _ _ _ h => h) (by assumption) (by rfl) ?_
            simp only [Act.put, List.setIfInBounds_toArray, List.set_cons_zero, List.set_cons_succ]
            first
              | (refine held_take 8 141 (v := ?_) rfl rfl (by kernel_rfl) (by kernel_rfl) (by kernel_rfl) (fun _ _ _ h => h) (by assumption) (by rfl) ?_ ?_; rotate_left; (focus (intro w hSw; (obtain ⟨x0, x1, _, _⟩ := (DPl.rd hSw.1).cells; have z3 := KX.out _ hSw.2); go_simp <;> with_reducible rfl)))
              | refine held_pass 8 141 rfl rfl (by kernel_rfl) (by kernel_rfl) (by kernel_rfl) (fun _ _ _ h => h) (by assumption) (by rfl) ?_
            simp only [Act.put, List.setIfInBounds_toArray, List.set_cons_zero, List.set_cons_succ]
            first
              | (refine held_take 9 142 (v := ?_) rfl rfl (by kernel_rfl) (by kernel_rfl) (by kernel_rfl) (fun _ _ _ h => h) (by assumption) (by rfl) ?_ ?_; rotate_left; (focus (intro w hSw; (obtain ⟨x0, x1, _, _⟩ := (DPl.rd hSw.1).cells; have z3 := KX.out _ hSw.2); go_simp <;> with_reducible rfl)))
              | refine held_pass 9 142 rfl rfl (by kernel_rfl) (by kernel_rfl) (by kernel_rfl) (fun _ _ _ h => h) (by assumption) (by rfl) ?_
            simp only [Act.put, List.setIfInBounds_toArray, List.set_cons_zero, List.set_cons_succ]
            first
              | (refine held_take 11 144 (v := ?_) rfl rfl (by kernel_rfl) (by kernel_rfl) (by kernel_rfl) (fun _ _ _ h => h) (by assumption) (by rfl) ?_ ?_; rotate_left; (focus (intro w hSw; (obtain ⟨x0, x1, _, _⟩ := (DPl.rd hSw.1).cells; have z3 := KX.out _ hSw.2); go_simp <;> with_reducible rfl)))
              | refine held_pass 11 144 rfl rfl (by kernel_rfl) (by kernel_rfl) (by kernel_rfl) (fun _ _ _ h => h) (by assumption) (by rfl) ?_
            simp only [Act.put, List.setIfInBounds_toArray, List.set_cons_zero, List.set_cons_succ]
            first
              | (refine held_take 12 145 (v := ?_) rfl rfl (by kernel_rfl) (by kernel_rfl) (by kernel_rfl) (fun _ _ _ h => h) (by assumption) (by rfl) ?_ ?_; rotate_left; (focus (intro w hSw; (obtain ⟨x0, x1, _, _⟩ := (DPl.rd hSw.1).cells; have z3 := KX.out _ hSw.2); go_simp <;> with_reducible rfl)))
              | refine held_pass 12 145 rfl rfl (by kernel_rfl) (by kernel_rfl) (by kernel_rfl) (fun _ _ _ h => h) (by assumption) (by rfl) ?_
            simp only [Act.put, List.setIfInBounds_toArray, List.set_cons_zero, List.set_cons_succ]
            first
              | (refine held_take 13 146 (v := ?_) rfl rfl (by kernel_rfl) (by kernel_rfl) (by kernel_rfl) (fun _ _ _ h => h) (by assumption) (by rfl) ?_ ?_; rotate_left; (focus (intro w hSw; (obtain ⟨x0, x1, _, _⟩ := (DPl.rd hSw.1).cells; have z3 := KX.out _ hSw.2); go_simp <;> with_reducible rfl)))
              | refine held_pass 13 146 rfl rfl (by kernel_rfl) (by kernel_rfl) (by kernel_rfl) (fun _ _ _ h => h) (by assumption) (by rfl) ?_
            simp only [Act.put, List.setIfInBounds_toArray, List.set_cons_zero, List.set_cons_succ]
            first
              | (refine held_take 14 147 (v := ?_) rfl rfl (by kernel_rfl) (by kernel_rfl) (by kernel_rfl) (fun _ _ _ h => h) (by assumption) (by rfl) ?_ ?_; rotate_left; (focus (intro w hSw; (obtain ⟨x0, x1, _, _⟩ := (DPl.rd hSw.1).cells; have z3 := KX.out _ hSw.2); go_simp <;> with_reducible rfl)))
              | refine held_pass 14 147 rfl rfl (by kernel_rfl) (by kernel_rfl) (by kernel_rfl) (fun _ _ _ h => h) (by assumption) (by rfl) ?_
            simp only [Act.put, List.setIfInBounds_toArray, List.set_cons_zero, List.set_cons_succ]
            first
              | (refine held_take 15 148 (v := ?_) rfl rfl (by kernel_rfl) (by kernel_rfl) (by kernel_rfl) (fun _ _ _ h => h) (by assumption) (by rfl) ?_ ?_; rotate_left; (focus (intro w hSw; (obtain ⟨x0, x1, _, _⟩ := (DPl.rd hSw.1).cells; have z3 := KX.out _ hSw.2); go_simp <;> with_reducible rfl)))
              | refine held_pass 15 148 rfl rfl (by kernel_rfl) (by kernel_rfl) (by kernel_rfl) (fun _ _ _ h => h) (by assumption) (by rfl) ?_
            simp only [Act.put, List.setIfInBounds_toArray, List.set_cons_zero, List.set_cons_succ]
            refine held_call 10 143 rfl rfl (by kernel_rfl) (by rfl) (fun K hK => ?_)
            simp only [Go.wp_at_succ, Go.wp_at_zero]
            go_simp
            go_at_call 16
            (with_reducible refine (K6.out _ D2.out).mono ?_)
            rintro e u3 ⟨rfl, rfl⟩
            first | (with_reducible refine hK.out _ _ ?_ (fun hHeld => ?_)) | (go_wp2_with fail; refine hK.out _ _ ?_ (fun hHeld => ?_))
            · exact hHeld2
            clear hK K
            try simp only [Act.put, List.setIfInBounds_toArray, List.set_cons_zero, List.set_cons_succ]
            first
              | (refine held_take 16 149 (v := ?_) rfl rfl (by kernel_rfl) (by kernel_rfl) (by kernel_rfl) (fun _ _ _ h => h) (by assumption) (by rfl) ?_ ?_; rotate_left; (focus (intro w hSw; (obtain ⟨x0, x1, _, _⟩ := (DPl.rd hSw.1).cells; have z3 := KX.out _ hSw.2); go_simp <;> with_reducible rfl)))
              | refine held_pass 16 149 rfl rfl (by kernel_rfl) (by kernel_rfl) (by kernel_rfl) (fun _ _ _ h => h) (by assumption) (by rfl) ?_
            simp only [Act.put, List.setIfInBounds_toArray, List.set_cons_zero, List.set_cons_succ]
            first
              | (refine held_take 17 150 (v := ?_) rfl rfl (by kernel_rfl) (by kernel_rfl) (by kernel_rfl) (fun _ _ _ h => h) (by assumption) (by rfl) ?_ ?_; rotate_left; (focus (intro w hSw; (obtain ⟨x0, x1, _, _⟩ := (DPl.rd hSw.1).cells; have z3 := KX.out _ hSw.2); go_simp <;> with_reducible rfl)))
              | refine held_pass 17 150 rfl rfl (by kernel_rfl) (by kernel_rfl) (by kernel_rfl) (fun _ _ _ h => h) (by assumption) (by rfl) ?_
            simp only [Act.put, List.setIfInBounds_toArray, List.set_cons_zero, List.set_cons_succ]
            first
              | (refine held_take 18 151 (v := ?_) rfl rfl (by kernel_rfl) (by kernel_rfl) (by kernel_rfl) (fun _ _ _ h => h) (by assumption) (by rfl) ?_ ?_; rotate_left; (focus (intro w hSw; (obtain ⟨x0, x1, _, _⟩ := (DPl.rd hSw.1).cells; have z3 := KX.out _ hSw.2); go_simp <;> with_reducible rfl)))
              | refine held_pass 18 151 rfl rfl (by kernel_rfl) (by kernel_rfl) (by kernel_rfl) (fun _ _ _ h => h) (by assumption) (by rfl) ?_
            simp only [Act.put, List.setIfInBounds_toArray, List.set_cons_zero, List.set_cons_succ]
            first
              | (refine held_take 19 152 (v := ?_) rfl rfl (by kernel_rfl) (by kernel_rfl) (by kernel_rfl) (fun _ _ _ h => h) (by assumption) (by rfl) ?_ ?_; rotate_left; (focus (intro w hSw; (obtain ⟨x0, x1, _, _⟩ := (DPl.rd hSw.1).cells; have z3 := KX.out _ hSw.2); go_simp <;> with_reducible rfl)))
              | refine held_pass 19 152 rfl rfl (by kernel_rfl) (by kernel_rfl) (by kernel_rfl) (fun _ _ _ h => h) (by assumption) (by rfl) ?_
            simp only [Act.put, List.setIfInBounds_toArray, List.set_cons_zero, List.set_cons_succ]
            first
              | (refine held_take 21 154 (v := ?_) rfl rfl (by kernel_rfl) (by kernel_rfl) (by kernel_rfl) (fun _ _ _ h => h) (by assumption) (by rfl) ?_ ?_; rotate_left; (focus (intro w hSw; (obtain ⟨x0, x1, _, _⟩ := (DPl.rd hSw.1).cells; have z3 := KX.out _ hSw.2); go_simp <;> with_reducible rfl)))
              | refine held_pass 21 154 rfl rfl (by kernel_rfl) (by kernel_rfl) (by kernel_rfl) (fun _ _ _ h => h) (by assumption) (by rfl) ?_
            simp only [Act.put, List.setIfInBounds_toArray, List.set_cons_zero, List.set_cons_succ]
            first
              | (refine held_take 22 155 (v := ?_) rfl rfl (by kernel_rfl) (by kernel_rfl) (by kernel_rfl) (fun _ _ _ h => h) (by assumption) (by rfl) ?_ ?_; rotate_left; (focus (intro w hSw; (obtain ⟨x0, x1, _, _⟩ := (DPl.rd hSw.1).cells; have z3 := KX.out _ hSw.2); go_simp <;> with_reducible rfl)))
              | refine held_pass 22 155 rfl rfl (by kernel_rfl) (by kernel_rfl) (by kernel_rfl) (fun _ _ _ h => h) (by assumption) (by rfl) ?_
            simp only [Act.put, List.setIfInBounds_toArray, List.set_cons_zero, List.set_cons_succ]
            first
              | (refine held_take 23 156 (v := ?_) rfl rfl (by kernel_rfl) (by kernel_rfl) (by kernel_rfl) (fun _ _ _ h => h) (by assumption) (by rfl) ?_ ?_; rotate_left; (focus (intro w hSw; (obtain ⟨x0, x1, _, _⟩ := (DPl.rd hSw.1).cells; have z3 := KX.out _ hSw.2); go_simp <;> with_reducible rfl)))
              | refine held_pass 23 156 rfl rfl (by kernel_rfl) (by kernel_rfl) (by kernel_rfl) (fun _ _ _ h => h) (by assumption) (by rfl) ?_
            simp only [Act.put, List.setIfInBounds_toArray, List.set_cons_zero, List.set_cons_succ]
            first
              | (refine held_take 24 157 (v := ?_) rfl rfl (by kernel_rfl) (by kernel_rfl) (by kernel_rfl) (fun _ _ _ h => h) (by assumption) (by rfl) ?_ ?_; rotate_left; (focus (intro w hSw; (obtain ⟨x0, x1, _, _⟩ := (DPl.rd hSw.1).cells; have z3 := KX.out _ hSw.2); go_simp <;> with_reducible rfl)))
              | refine held_pass 24 157 rfl rfl (by kernel_rfl) (by kernel_rfl) (by kernel_rfl) (fun _ _ _ h => h) (by assumption) (by rfl) ?_
            simp only [Act.put, List.setIfInBounds_toArray, List.set_cons_zero, List.set_cons_succ]
            refine held_call 20 153 rfl rfl (by kernel_rfl) (by rfl) (fun K hK => ?_)
            simp only [Go.wp_at_succ, Go.wp_at_zero]
            go_simp
            go_at_call 17
            (with_reducible refine (K7.out _ D2.out).mono ?_)
            rintro e u4 ⟨rfl, rfl⟩
            first | (with_reducible refine hK.out _ _ ?_ (fun hHeld => ?_)) | (go_wp2_with fail; refine hK.out _ _ ?_ (fun hHeld => ?_))
            · exact hHeld2
            clear hK K
            try simp only [Act.put, List.setIfInBounds_toArray, List.set_cons_zero, List.set_cons_succ]
            first
              | (refine held_take 25 158 (v := ?_) rfl rfl (by kernel_rfl) (by kernel_rfl) (by kernel_rfl) (fun _ _ _ h => h) (by assumption) (by rfl) ?_ ?_; rotate_left; (focus (intro w hSw; (obtain ⟨x0, x1, _, _⟩ := (DPl.rd hSw.1).cells; have z3 := KX.out _ hSw.2); go_simp <;> with_reducible rfl)))
              | refine held_pass 25 158 rfl rfl (by kernel_rfl) (by kernel_rfl) (by kernel_rfl) (fun _ _ _ h => h) (by assumption) (by rfl) ?_
            simp only [Act.put, List.setIfInBounds_toArray, List.set_cons_zero, List.set_cons_succ]
            first
              | (refine held_take 26 159 (v := ?_) rfl rfl (by kernel_rfl) (by kernel_rfl) (by kernel_rfl) (fun _ _ _ h => h) (by assumption) (by rfl) ?_ ?_; rotate_left; (focus (intro w hSw; (obtain ⟨x0, x1, _, _⟩ := (DPl.rd hSw.1).cells; have z3 := KX.out _ hSw.2); go_simp <;> with_reducible rfl)))
              | refine held_pass 26 159 rfl rfl (by kernel_rfl) (by kernel_rfl) (by kernel_rfl) (fun _ _ _ h => h) (by assumption) (by rfl) ?_
            simp only [Act.put, List.setIfInBounds_toArray, List.set_cons_zero, List.set_cons_succ]
            refine wpAnyH_done (by kernel_rfl) ?_ _
            clear K5 K6 K7 KX B9
            go_wp2
            go_roundw
            case rel => exact ⟨g', k + 1, j', Y', Z', rfl, by go_num, hlt, by omega, S9, D2.out⟩
            case measure => simp [intOf]; omega
      · have hlim : (60 : Int) ≤ (k : Int) := by omega
        clear h60
        obtain ⟨hZY, hZs, hjY, hYl⟩ := SS.out
        have K5 : Hid (∀ u, DPl n w g R Y j Z u → Calls Try.prog 15 #[.pointer (some ⟨g, 0, none⟩)] u fun e w' => ∃ a q, e = .returned (.slice a Y.length q) ∧ (∀ u', Below w'.heap.size w' u' → (convert 28 9 (.slice a Y.length q)).run Try.prog u' = .ok (.string Z) u') ∧ DPl n w g R Y j Z w') :=
          fun u hu => (o_bytes hu.dk (by omega)).mono fun e w' ⟨a, q, he, hy, _, hb⟩ => ⟨a, q, he, fun u' hu' => by rw [hZY]; exact run_conv_byt (hy.keep hu'), hu.on hb⟩
        have K4 : Hid (∀ u, DPl n w g R Y j Z u → Calls Try.prog 15 #[.pointer (some ⟨g, 0, none⟩)] u (TellsB Y u)) := fun u hu => o_bytes hu.dk (by omega)
        have hYl2 : Y.length ≤ 3000 := by omega
        clear hZY hZs hjY hYl
        by_cases h0 : 0 < Y.length
        · go_wp2_with fail
          refine (K4.out _ HB.out).mono ?_
          rintro e w3 ⟨aa, cc, rfl, hy, hr, hb⟩
          obtain ⟨nb, rfl, hnb, hn0, hnf⟩ := first_cell hr h0
          obtain ⟨y0, hy0⟩ := hn0
          have B3 : Hid (∀ x, DPl n w g R Y j Z (w3.setCell ⟨nb, 0, none⟩ x)) := fun x => HB.out.on (hb.setCell (p := ⟨nb, 0, none⟩) hnb x)
          have i1 : (0 : Int) < (Y.length : Int) := by omega
          clear hy hr hb hnb K4 HB
          go_upto_region 38 with fail
          refine wp_region_held_drew (S := DPl n w g R Y j Z) (by kernel_rfl) ((DPl.on (B3.out _) ⟨rfl, rfl, rfl, Nat.le_refl _, fun _ _ => rfl⟩)) (fun hHeld => ?_)
          refine held_call 0 170 rfl rfl (by kernel_rfl) (by rfl) (fun K hK => ?_)
          simp only [Go.wp_at_zero]
          go_simp
          go_at_call 8
          (with_reducible refine (HT.out _).mono ?_)
          rintro e u1 ⟨rfl, hb⟩
          have D1 := Lib.hid (DPl.on hHeld hb)
          clear hb
          first | (with_reducible refine hK.out _ _ ?_ (fun hHeld => ?_)) | (go_wp2_with fail; refine hK.out _ _ ?_ (fun hHeld => ?_))
          · exact D1.out
          clear hK K
          try simp only [Act.put, List.setIfInBounds_toArray, List.set_cons_zero, List.set_cons_succ]
          first
            | (refine held_take 1 171 (v := ?_) rfl rfl (by kernel_rfl) (by kernel_rfl) (by kernel_rfl) (fun _ _ _ h => h) (by assumption) (by rfl) ?_ ?_; rotate_left; (focus (intro w hSw; (obtain ⟨x0, x1, _, _⟩ := (DPl.rd hSw).cells); go_simp <;> with_reducible rfl)))
            | refine held_pass 1 171 rfl rfl (by kernel_rfl) (by kernel_rfl) (by kernel_rfl) (fun _ _ _ h => h) (by assumption) (by rfl) ?_
          simp only [Act.put, List.setIfInBounds_toArray, List.set_cons_zero, List.set_cons_succ]
          first
            | (refine held_take 2 172 (v := ?_) rfl rfl (by kernel_rfl) (by kernel_rfl) (by kernel_rfl) (fun _ _ _ h => h) (by assumption) (by rfl) ?_ ?_; rotate_left; (focus (intro w hSw; (obtain ⟨x0, x1, _, _⟩ := (DPl.rd hSw).cells); go_simp <;> with_reducible rfl)))
            | refine held_pass 2 172 rfl rfl (by kernel_rfl) (by kernel_rfl) (by kernel_rfl) (fun _ _ _ h => h) (by assumption) (by rfl) ?_
          simp only [Act.put, List.setIfInBounds_toArray, List.set_cons_zero, List.set_cons_succ]
          first
            | (refine held_take 5 175 (v := ?_) rfl rfl (by kernel_rfl) (by kernel_rfl) (by kernel_rfl) (fun _ _ _ h => h) (by assumption) (by rfl) ?_ ?_; rotate_left; (focus (intro w hSw; (obtain ⟨x0, x1, _, _⟩ := (DPl.rd hSw).cells); go_simp <;> with_reducible rfl)))
            | refine held_pass 5 175 rfl rfl (by kernel_rfl) (by kernel_rfl) (by kernel_rfl) (fun _ _ _ h => h) (by assumption) (by rfl) ?_
          simp only [Act.put, List.setIfInBounds_toArray, List.set_cons_zero, List.set_cons_succ]
          first
            | (refine held_take 6 176 (v := ?_) rfl rfl (by kernel_rfl) (by kernel_rfl) (by kernel_rfl) (fun _ _ _ h => h) (by assumption) (by rfl) ?_ ?_; rotate_left; (focus (intro w hSw; (obtain ⟨x0, x1, _, _⟩ := (DPl.rd hSw).cells); go_simp <;> with_reducible rfl)))
            | refine held_pass 6 176 rfl rfl (by kernel_rfl) (by kernel_rfl) (by kernel_rfl) (fun _ _ _ h => h) (by assumption) (by rfl) ?_
          simp only [Act.put, List.setIfInBounds_toArray, List.set_cons_zero, List.set_cons_succ]
          first
            | (refine held_take 7 177 (v := ?_) rfl rfl (by kernel_rfl) (by kernel_rfl) (by kernel_rfl) (fun _ _ _ h => h) (by assumption) (by rfl) ?_ ?_; rotate_left; (focus (intro w hSw; (obtain ⟨x0, x1, _, _⟩ := (DPl.rd hSw).cells); go_simp <;> with_reducible rfl)))
            | refine held_pass 7 177 rfl rfl (by kernel_rfl) (by kernel_rfl) (by kernel_rfl) (fun _ _ _ h => h) (by assumption) (by rfl) ?_
          simp only [Act.put, List.setIfInBounds_toArray, List.set_cons_zero, List.set_cons_succ]
          first
            | (refine held_take 8 178 (v := ?_) rfl rfl (by kernel_rfl) (by kernel_rfl) (by kernel_rfl) (fun _ _ _ h => h) (by assumption) (by rfl) ?_ ?_; rotate_left; (focus (intro w hSw; (obtain ⟨x0, x1, _, _⟩ := (DPl.rd hSw).cells); go_simp <;> with_reducible rfl)))
            | refine held_pass 8 178 rfl rfl (by kernel_rfl) (by kernel_rfl) (by kernel_rfl) (fun _ _ _ h => h) (by assumption) (by rfl) ?_
          simp only [Act.put, List.setIfInBounds_toArray, List.set_cons_zero, List.set_cons_succ]
          refine held_call 3 173 rfl rfl (by kernel_rfl) (by rfl) (fun K hK => ?_)
          simp only [Go.wp_at_succ, Go.wp_at_zero]
          go_simp
          go_at_call 15
          (with_reducible refine (K5.out _ hHeld).mono ?_)
          rintro e u2 ⟨ax, qx, rfl, hk, hb⟩
          have D2 := Lib.hid hb
          have KX := Lib.hid hk
          clear hb hk
          first | (with_reducible refine hK.out _ _ ?_ (fun hHeld => ?_)) | (go_wp2_with fail; refine hK.out _ _ ?_ (fun hHeld => ?_))
          · exact D2.out
          clear hK K
          try simp only [Act.put, List.setIfInBounds_toArray, List.set_cons_zero, List.set_cons_succ]
          refine held_narrow (S' := fun u => DPl n w g R Y j Z u ∧ Below u2.heap.size u2 u) (fun _ h => h.1) _ _ _ _ ?_
          have hHeld2 : (fun u => DPl n w g R Y j Z u ∧ Below u2.heap.size u2 u) u2 := ⟨D2.out, Below.refl _ _⟩
          first
            | (refine held_take 4 174 (v := ?_) rfl rfl (by kernel_rfl) (by kernel_rfl) (by kernel_rfl) (fun _ _ _ h => h) (by assumption) (by rfl) ?_ ?_; rotate_left; (focus (intro w hSw; (obtain ⟨x0, x1, _, _⟩ := (DPl.rd hSw.1).cells; have z3 := KX.out _ hSw.2); go_simp <;> with_reducible rfl)))
            | refine held_pass 4 174 rfl rfl (by kernel_rfl) (by kernel_rfl) (by kernel_rfl) (fun _ _ _ h => h) (by assumption) (by rfl) ?_
          simp only [Act.put, List.setIfInBounds_toArray, List.set_cons_zero, List.set_cons_succ]
          first
            | (refine held_take 9 179 (v := ?_) rfl rfl (by kernel_rfl) (by kernel_rfl) (by kernel_rfl) (fun _ _ _ h => h) (by assumption) (by rfl) ?_ ?_; rotate_left; (focus (intro w hSw; (obtain ⟨x0, x1, _, _⟩ := (DPl.rd hSw.1).cells; have z3 := KX.out _ hSw.2); go_simp <;> with_reducible rfl)))
            | refine held_pass 9 179 rfl rfl (by kernel_rfl) (by kernel_rfl) (by kernel_rfl) (fun _ _ _ h => h) (by assumption) (by rfl) ?_
          simp only [Act.put, List.setIfInBounds_toArray, List.set_cons_zero, List.set_cons_succ]
          first
            | (refine held_take 10 180 (v := ?_) rfl rfl (by kernel_rfl) (by kernel_rfl) (by kernel_rfl) (fun _ _ _ h => h) (by assumption) (by rfl) ?_ ?_; rotate_left; (focus (intro w hSw; (obtain ⟨x0, x1, _, _⟩ := (DPl.rd hSw.1).cells; have z3 := KX.out _ hSw.2); go_simp <;> with_reducible rfl)))
            | refine held_pass 10 180 rfl rfl (by kernel_rfl) (by kernel_rfl) (by kernel_rfl) (fun _ _ _ h => h) (by assumption) (by rfl) ?_
          simp only [Act.put, List.setIfInBounds_toArray, List.set_cons_zero, List.set_cons_succ]
          first
            | (refine held_take 11 2 (v := ?_) rfl rfl (by kernel_rfl) (by kernel_rfl) (by kernel_rfl) (fun _ _ _ h => h) (by assumption) (by rfl) ?_ ?_; rotate_left; (focus (intro w hSw; (obtain ⟨x0, x1, _, _⟩ := (DPl.rd hSw.1).cells; have z3 := KX.out _ hSw.2); go_simp <;> with_reducible rfl)))
            | refine held_pass 11 2 rfl rfl (by kernel_rfl) (by kernel_rfl) (by kernel_rfl) (fun _ _ _ h => h) (by assumption) (by rfl) ?_
          simp only [Act.put, List.setIfInBounds_toArray, List.set_cons_zero, List.set_cons_succ]
          refine wpAnyH_done (by kernel_rfl) ?_ _
          go_wp2
          go_returns
          exact ⟨rfl, D2.out.dk.bel⟩
        · go_wp2_with fail
          refine (K4.out _ HB.out).mono ?_
          rintro e w3 ⟨aa, cc, rfl, hy, hr, hb⟩
          have B3 := Lib.hid (HB.out.on hb)
          clear hy hr hb K4 HB
          go_wp2_with fail
          all_goals first
            | (exfalso; omega)
            | skip
          go_upto_region 38 with fail
          refine wp_region_held_drew (S := DPl n w g R Y j Z) (by kernel_rfl) ((DPl.on (B3.out) ⟨rfl, rfl, rfl, Nat.le_refl _, fun _ _ => rfl⟩)) (fun hHeld => ?_)
          refine held_call 0 170 rfl rfl (by kernel_rfl) (by rfl) (fun K hK => ?_)
          simp only [Go.wp_at_zero]
          go_simp
          go_at_call 8
          (with_reducible refine (HT.out _).mono ?_)
          rintro e u1 ⟨rfl, hb⟩
          have D1 := Lib.hid (DPl.on hHeld hb)
          clear hb
          first | (with_reducible refine hK.out _ _ ?_ (fun hHeld => ?_)) | (go_wp2_with fail; refine hK.out _ _ ?_ (fun hHeld => ?_))
          · exact D1.out
          clear hK K
          try simp only [Act.put, List.setIfInBounds_toArray, List.set_cons_zero, List.set_cons_succ]
          first
            | (refine held_take 1 171 (v := ?_) rfl rfl (by kernel_rfl) (by kernel_rfl) (by kernel_rfl) (fun _ _ _ h => h) (by assumption) (by rfl) ?_ ?_; rotate_left; (focus (intro w hSw; (obtain ⟨x0, x1, _, _⟩ := (DPl.rd hSw).cells); go_simp <;> with_reducible rfl)))
            | refine held_pass 1 171 rfl rfl (by kernel_rfl) (by kernel_rfl) (by kernel_rfl) (fun _ _ _ h => h) (by assumption) (by rfl) ?_
          simp only [Act.put, List.setIfInBounds_toArray, List.set_cons_zero, List.set_cons_succ]
          first
            | (refine held_take 2 172 (v := ?_) rfl rfl (by kernel_rfl) (by kernel_rfl) (by kernel_rfl) (fun _ _ _ h => h) (by assumption) (by rfl) ?_ ?_; rotate_left; (focus (intro w hSw; (obtain ⟨x0, x1, _, _⟩ := (DPl.rd hSw).cells); go_simp <;> with_reducible rfl)))
            | refine held_pass 2 172 rfl rfl (by kernel_rfl) (by kernel_rfl) (by kernel_rfl) (fun _ _ _ h => h) (by assumption) (by rfl) ?_
          simp only [Act.put, List.setIfInBounds_toArray, List.set_cons_zero, List.set_cons_succ]
          first
            | (refine held_take 5 175 (v := ?_) rfl rfl (by kernel_rfl) (by kernel_rfl) (by kernel_rfl) (fun _ _ _ h => h) (by assumption) (by rfl) ?_ ?_; rotate_left; (focus (intro w hSw; (obtain ⟨x0, x1, _, _⟩ := (DPl.rd hSw).cells); go_simp <;> with_reducible rfl)))
            | refine held_pass 5 175 rfl rfl (by kernel_rfl) (by kernel_rfl) (by kernel_rfl) (fun _ _ _ h => h) (by assumption) (by rfl) ?_
          simp only [Act.put, List.setIfInBounds_toArray, List.set_cons_zero, List.set_cons_succ]
          first
            | (refine held_take 6 176 (v := ?_) rfl rfl (by kernel_rfl) (by kernel_rfl) (by kernel_rfl) (fun _ _ _ h => h) (by assumption) (by rfl) ?_ ?_; rotate_left; (focus (intro w hSw; (obtain ⟨x0, x1, _, _⟩ := (DPl.rd hSw).cells); go_simp <;> with_reducible rfl)))
            | refine held_pass 6 176 rfl rfl (by kernel_rfl) (by kernel_rfl) (by kernel_rfl) (fun _ _ _ h => h) (by assumption) (by rfl) ?_
          simp only [Act.put, List.setIfInBounds_toArray, List.set_cons_zero, List.set_cons_succ]
          first
            | (refine held_take 7 177 (v := ?_) rfl rfl (by kernel_rfl) (by kernel_rfl) (by kernel_rfl) (fun _ _ _ h => h) (by assumption) (by rfl) ?_ ?_; rotate_left; (focus (intro w hSw; (obtain ⟨x0, x1, _, _⟩ := (DPl.rd hSw).cells); go_simp <;> with_reducible rfl)))
            | refine held_pass 7 177 rfl rfl (by kernel_rfl) (by kernel_rfl) (by kernel_rfl) (fun _ _ _ h => h) (by assumption) (by rfl) ?_
          simp only [Act.put, List.setIfInBounds_toArray, List.set_cons_zero, List.set_cons_succ]
          first
            | (refine held_take 8 178 (v := ?_) rfl rfl (by kernel_rfl) (by kernel_rfl) (by kernel_rfl) (fun _ _ _ h => h) (by assumption) (by rfl) ?_ ?_; rotate_left; (focus (intro w hSw; (obtain ⟨x0, x1, _, _⟩ := (DPl.rd hSw).cells); go_simp <;> with_reducible rfl)))
            | refine held_pass 8 178 rfl rfl (by kernel_rfl) (by kernel_rfl) (by kernel_rfl) (fun _ _ _ h => h) (by assumption) (by rfl) ?_
          simp only [Act.put, List.setIfInBounds_toArray, List.set_cons_zero, List.set_cons_succ]
          refine held_call 3 173 rfl rfl (by kernel_rfl) (by rfl) (fun K hK => ?_)
          simp only [Go.wp_at_succ, Go.wp_at_zero]
          go_simp
          go_at_call 15
          (with_reducible refine (K5.out _ hHeld).mono ?_)
          rintro e u2 ⟨ax, qx, rfl, hk, hb⟩
          have D2 := Lib.hid hb
          have KX := Lib.hid hk
          clear hb hk
          first | (with_reducible refine hK.out _ _ ?_ (fun hHeld => ?_)) | (go_wp2_with fail; refine hK.out _ _ ?_ (fun hHeld => ?_))
          · exact D2.out
          clear hK K
          try simp only [Act.put, List.setIfInBounds_toArray, List.set_cons_zero, List.set_cons_succ]
          refine held_narrow (S' := fun u => DPl n w g R Y j Z u ∧ Below u2.heap.size u2 u) (fun _ h => h.1) _ _ _ _ ?_
          have hHeld2 : (fun u => DPl n w g R Y j Z u ∧ Below u2.heap.size u2 u) u2 := ⟨D2.out, Below.refl _ _⟩
          first
            | (refine held_take 4 174 (v := ?_) rfl rfl (by kernel_rfl) (by kernel_rfl) (by kernel_rfl) (fun _ _ _ h => h) (by assumption) (by rfl) ?_ ?_; rotate_left; (focus (intro w hSw; (obtain ⟨x0, x1, _, _⟩ := (DPl.rd hSw.1).cells; have z3 := KX.out _ hSw.2); go_simp <;> with_reducible rfl)))
            | refine held_pass 4 174 rfl rfl (by kernel_rfl) (by kernel_rfl) (by kernel_rfl) (fun _ _ _ h => h) (by assumption) (by rfl) ?_
          simp only [Act.put, List.setIfInBounds_toArray, List.set_cons_zero, List.set_cons_succ]
          first
            | (refine held_take 9 179 (v := ?_) rfl rfl (by kernel_rfl) (by kernel_rfl) (by kernel_rfl) (fun _ _ _ h => h) (by assumption) (by rfl) ?_ ?_; rotate_left; (focus (intro w hSw; (obtain ⟨x0, x1, _, _⟩ := (DPl.rd hSw.1).cells; have z3 := KX.out _ hSw.2); go_simp <;> with_reducible rfl)))
            | refine held_pass 9 179 rfl rfl (by kernel_rfl) (by kernel_rfl) (by kernel_rfl) (fun _ _ _ h => h) (by assumption) (by rfl) ?_
          simp only [Act.put, List.setIfInBounds_toArray, List.set_cons_zero, List.set_cons_succ]
          first
            | (refine held_take 10 180 (v := ?_) rfl rfl (by kernel_rfl) (by kernel_rfl) (by kernel_rfl) (fun _ _ _ h => h) (by assumption) (by rfl) ?_ ?_; rotate_left; (focus (intro w hSw; (obtain ⟨x0, x1, _, _⟩ := (DPl.rd hSw.1).cells; have z3 := KX.out _ hSw.2); go_simp <;> with_reducible rfl)))
            | refine held_pass 10 180 rfl rfl (by kernel_rfl) (by kernel_rfl) (by kernel_rfl) (fun _ _ _ h => h) (by assumption) (by rfl) ?_
          simp only [Act.put, List.setIfInBounds_toArray, List.set_cons_zero, List.set_cons_succ]
          first
            | (refine held_take 11 2 (v := ?_) rfl rfl (by kernel_rfl) (by kernel_rfl) (by kernel_rfl) (fun _ _ _ h => h) (by assumption) (by rfl) ?_ ?_; rotate_left; (focus (intro w hSw; (obtain ⟨x0, x1, _, _⟩ := (DPl.rd hSw.1).cells; have z3 := KX.out _ hSw.2); go_simp <;> with_reducible rfl)))
            | refine held_pass 11 2 rfl rfl (by kernel_rfl) (by kernel_rfl) (by kernel_rfl) (fun _ _ _ h => h) (by assumption) (by rfl) ?_
          simp only [Act.put, List.setIfInBounds_toArray, List.set_cons_zero, List.set_cons_succ]
          refine wpAnyH_done (by kernel_rfl) ?_ _
          go_wp2
          go_returns
          exact ⟨rfl, D2.out.dk.bel⟩
    · have hle : (len : Int) ≤ (k : Int) := by omega
      clear hlt
      obtain ⟨hZY, hZs, hjY, hYl⟩ := SS.out
      have K5 : Hid (∀ u, DPl n w g R Y j Z u → Calls Try.prog 15 #[.pointer (some ⟨g, 0, none⟩)] u fun e w' => ∃ a q, e = .returned (.slice a Y.length q) ∧ (∀ u', Below w'.heap.size w' u' → (convert 28 9 (.slice a Y.length q)).run Try.prog u' = .ok (.string Z) u') ∧ DPl n w g R Y j Z w') :=
        fun u hu => (o_bytes hu.dk (by omega)).mono fun e w' ⟨a, q, he, hy, _, hb⟩ => ⟨a, q, he, fun u' hu' => by rw [hZY]; exact run_conv_byt (hy.keep hu'), hu.on hb⟩
      have K4 : Hid (∀ u, DPl n w g R Y j Z u → Calls Try.prog 15 #[.pointer (some ⟨g, 0, none⟩)] u (TellsB Y u)) := fun u hu => o_bytes hu.dk (by omega)
      have hYl2 : Y.length ≤ 3000 := by omega
      clear hZY hZs hjY hYl
      by_cases h0 : 0 < Y.length
      · go_wp2_with fail
        refine (K4.out _ HB.out).mono ?_
        rintro e w3 ⟨aa, cc, rfl, hy, hr, hb⟩
        obtain ⟨nb, rfl, hnb, hn0, hnf⟩ := first_cell hr h0
        obtain ⟨y0, hy0⟩ := hn0
        have B3 : Hid (∀ x, DPl n w g R Y j Z (w3.setCell ⟨nb, 0, none⟩ x)) := fun x => HB.out.on (hb.setCell (p := ⟨nb, 0, none⟩) hnb x)
        have i1 : (0 : Int) < (Y.length : Int) := by omega
        clear hy hr hb hnb K4 HB
        go_upto_region 38 with fail
        refine wp_region_held_drew (S := DPl n w g R Y j Z) (by kernel_rfl) ((DPl.on (B3.out _) ⟨rfl, rfl, rfl, Nat.le_refl _, fun _ _ => rfl⟩)) (fun hHeld => ?_)
        refine held_call 0 170 rfl rfl (by kernel_rfl) (by rfl) (fun K hK => ?_)
        simp only [Go.wp_at_zero]
        go_simp
        go_at_call 8
        (with_reducible refine (HT.out _).mono ?_)
        rintro e u1 ⟨rfl, hb⟩
        have D1 := Lib.hid (DPl.on hHeld hb)
        clear hb
        first | (with_reducible refine hK.out _ _ ?_ (fun hHeld => ?_)) | (go_wp2_with fail; refine hK.out _ _ ?_ (fun hHeld => ?_))
        · exact D1.out
        clear hK K
        try simp only [Act.put, List.setIfInBounds_toArray, List.set_cons_zero, List.set_cons_succ]
        first
          | (refine held_take 1 171 (v := ?_) rfl rfl (by kernel_rfl) (by kernel_rfl) (by kernel_rfl) (fun _ _ _ h => h) (by assumption) (by rfl) ?_ ?_; rotate_left; (focus (intro w hSw; (obtain ⟨x0, x1, _, _⟩ := (DPl.rd hSw).cells); go_simp <;> with_reducible rfl)))
          | refine held_pass 1 171 rfl rfl (by kernel_rfl) (by kernel_rfl) (by kernel_rfl) (fun _ _ _ h => h) (by assumption) (by rfl) ?_
        simp only [Act.put, List.setIfInBounds_toArray, List.set_cons_zero, List.set_cons_succ]
        first
          | (refine held_take 2 172 (v := ?_) rfl rfl (by kernel_rfl) (by kernel_rfl) (by kernel_rfl) (fun _ _ _ h => h) (by assumption) (by rfl) ?_ ?_; rotate_left; (focus (intro w hSw; (obtain ⟨x0, x1, _, _⟩ := (DPl.rd hSw).cells); go_simp <;> with_reducible rfl)))
          | refine held_pass 2 172 rfl rfl (by kernel_rfl) (by kernel_rfl) (by kernel_rfl) (fun _ _ _ h => h) (by assumption) (by rfl) ?_
        simp only [Act.put, List.setIfInBounds_toArray, List.set_cons_zero, List.set_cons_succ]
        first
          | (refine held_take 5 175 (v := ?_) rfl rfl (by kernel_rfl) (by kernel_rfl) (by kernel_rfl) (fun _ _ _ h => h) (by assumption) (by rfl) ?_ ?_; rotate_left; (focus (intro w hSw; (obtain ⟨x0, x1, _, _⟩ := (DPl.rd hSw).cells); go_simp <;> with_reducible rfl)))
          | refine held_pass 5 175 rfl rfl (by kernel_rfl) (by kernel_rfl) (by kernel_rfl) (fun _ _ _ h => h) (by assumption) (by rfl) ?_
        simp only [Act.put, List.setIfInBounds_toArray, List.set_cons_zero, List.set_cons_succ]
        first
          | (refine held_take 6 176 (v := ?_) rfl rfl (by kernel_rfl) (by kernel_rfl) (by kernel_rfl) (fun _ _ _ h => h) (by assumption) (by rfl) ?_ ?_; rotate_left; (focus (intro w hSw; (obtain ⟨x0, x1, _, _⟩ := (DPl.rd hSw).cells); go_simp <;> with_reducible rfl)))
          | refine held_pass 6 176 rfl rfl (by kernel_rfl) (by kernel_rfl) (by kernel_rfl) (fun _ _ _ h => h) (by assumption) (by rfl) ?_
        simp only [Act.put, List.setIfInBounds_toArray, List.set_cons_zero, List.set_cons_succ]
        first
          | (refine held_take 7 177 (v := ?_) rfl rfl (by kernel_rfl) (by kernel_rfl) (by kernel_rfl) (fun _ _ _ h => h) (by assumption) (by rfl) ?_ ?_; rotate_left; (focus (intro w hSw; (obtain ⟨x0, x1, _, _⟩ := (DPl.rd hSw).cells); go_simp <;> with_reducible rfl)))
          | refine held_pass 7 177 rfl rfl (by kernel_rfl) (by kernel_rfl) (by kernel_rfl) (fun _ _ _ h => h) (by assumption) (by rfl) ?_
        simp only [Act.put, List.setIfInBounds_toArray, List.set_cons_zero, List.set_cons_succ]
        first
          | (refine held_take 8 178 (v := ?_) rfl rfl (by kernel_rfl) (by kernel_rfl) (by kernel_rfl) (fun _ _ _ h => h) (by assumption) (by rfl) ?_ ?_; rotate_left; (focus (intro w hSw; (obtain ⟨x0, x1, _, _⟩ := (DPl.rd hSw).cells); go_simp <;> with_reducible rfl)))
          | refine held_pass 8 178 rfl rfl (by kernel_rfl) (by kernel_rfl) (by kernel_rfl) (fun _ _ _ h => h) (by assumption) (by rfl) ?_
        simp only [Act.put, List.setIfInBounds_toArray, List.set_cons_zero, List.set_cons_succ]
        refine held_call 3 173 rfl rfl (by kernel_rfl) (by rfl) (fun K hK => ?_)
        simp only [Go.wp_at_succ, Go.wp_at_zero]
        go_simp
        go_at_call 15
        (with_reducible refine (K5.out _ hHeld).mono ?_)
        rintro e u2 ⟨ax, qx, rfl, hk, hb⟩
        have D2 := Lib.hid hb
        have KX := Lib.hid hk
        clear hb hk
        first | (with_reducible refine hK.out _ _ ?_ (fun hHeld => ?_)) | (go_wp2_with fail; refine hK.out _ _ ?_ (fun hHeld => ?_))
        · exact D2.out
        clear hK K
        try simp only [Act.put, List.setIfInBounds_toArray, List.set_cons_zero, List.set_cons_succ]
        refine held_narrow (S' := fun u => DPl n w g R Y j Z u ∧ Below u2.heap.size u2 u) (fun _ h => h.1) _ _ _ _ ?_
        have hHeld2 : (fun u => DPl n w g R Y j Z u ∧ Below u2.heap.size u2 u) u2 := ⟨D2.out, Below.refl _ _⟩
        first
          | (refine held_take 4 174 (v := ?_) rfl rfl (by kernel_rfl) (by kernel_rfl) (by kernel_rfl) (fun _ _ _ h => h) (by assumption) (by rfl) ?_ ?_; rotate_left; (focus (intro w hSw; (obtain ⟨x0, x1, _, _⟩ := (DPl.rd hSw.1).cells; have z3 := KX.out _ hSw.2); go_simp <;> with_reducible rfl)))
          | refine held_pass 4 174 rfl rfl (by kernel_rfl) (by kernel_rfl) (by kernel_rfl) (fun _ _ _ h => h) (by assumption) (by rfl) ?_
        simp only [Act.put, List.setIfInBounds_toArray, List.set_cons_zero, List.set_cons_succ]
        first
          | (refine held_take 9 179 (v := ?_) rfl rfl (by kernel_rfl) (by kernel_rfl) (by kernel_rfl) (fun _ _ _ h => h) (by assumption) (by rfl) ?_ ?_; rotate_left; (focus (intro w hSw; (obtain ⟨x0, x1, _, _⟩ := (DPl.rd hSw.1).cells; have z3 := KX.out _ hSw.2); go_simp <;> with_reducible rfl)))
          | refine held_pass 9 179 rfl rfl (by kernel_rfl) (by kernel_rfl) (by kernel_rfl) (fun _ _ _ h => h) (by assumption) (by rfl) ?_
        simp only [Act.put, List.setIfInBounds_toArray, List.set_cons_zero, List.set_cons_succ]
        first
          | (refine held_take 10 180 (v := ?_) rfl rfl (by kernel_rfl) (by kernel_rfl) (by kernel_rfl) (fun _ _ _ h => h) (by assumption) (by rfl) ?_ ?_; rotate_left; (focus (intro w hSw; (obtain ⟨x0, x1, _, _⟩ := (DPl.rd hSw.1).cells; have z3 := KX.out _ hSw.2); go_simp <;> with_reducible rfl)))
          | refine held_pass 10 180 rfl rfl (by kernel_rfl) (by kernel_rfl) (by kernel_rfl) (fun _ _ _ h => h) (by assumption) (by rfl) ?_
        simp only [Act.put, List.setIfInBounds_toArray, List.set_cons_zero, List.set_cons_succ]
        first
          | (refine held_take 11 2 (v := ?_) rfl rfl (by kernel_rfl) (by kernel_rfl) (by kernel_rfl) (fun _ _ _ h => h) (by assumption) (by rfl) ?_ ?_; rotate_left; (focus (intro w hSw; (obtain ⟨x0, x1, _, _⟩ := (DPl.rd hSw.1).cells; have z3 := KX.out _ hSw.2); go_simp <;> with_reducible rfl)))
          | refine held_pass 11 2 rfl rfl (by kernel_rfl) (by kernel_rfl) (by kernel_rfl) (fun _ _ _ h => h) (by assumption) (by rfl) ?_
        simp only [Act.put, List.setIfInBounds_toArray, List.set_cons_zero, List.set_cons_succ]
        refine wpAnyH_done (by kernel_rfl) ?_ _
        go_wp2
        go_returns
        exact ⟨rfl, D2.out.dk.bel⟩
      · go_wp2_with fail
        refine (K4.out _ HB.out).mono ?_
        rintro e w3 ⟨aa, cc, rfl, hy, hr, hb⟩
        have B3 := Lib.hid (HB.out.on hb)
        clear hy hr hb K4 HB
        go_wp2_with fail
        all_goals first
          | (exfalso; omega)
          | skip
        go_upto_region 38 with fail
        refine wp_region_held_drew (S := DPl n w g R Y j Z) (by kernel_rfl) ((DPl.on (B3.out) ⟨rfl, rfl, rfl, Nat.le_refl _, fun _ _ => rfl⟩)) (fun hHeld => ?_)
        refine held_call 0 170 rfl rfl (by kernel_rfl) (by rfl) (fun K hK => ?_)
        simp only [Go.wp_at_zero]
        go_simp
        go_at_call 8
        (with_reducible refine (HT.out _).mono ?_)
        rintro e u1 ⟨rfl, hb⟩
        have D1 := Lib.hid (DPl.on hHeld hb)
        clear hb
        first | (with_reducible refine hK.out _ _ ?_ (fun hHeld => ?_)) | (go_wp2_with fail; refine hK.out _ _ ?_ (fun hHeld => ?_))
        · exact D1.out
        clear hK K
        try simp only [Act.put, List.setIfInBounds_toArray, List.set_cons_zero, List.set_cons_succ]
        first
          | (refine held_take 1 171 (v := ?_) rfl rfl (by kernel_rfl) (by kernel_rfl) (by kernel_rfl) (fun _ _ _ h => h) (by assumption) (by rfl) ?_ ?_; rotate_left; (focus (intro w hSw; (obtain ⟨x0, x1, _, _⟩ := (DPl.rd hSw).cells); go_simp <;> with_reducible rfl)))
          | refine held_pass 1 171 rfl rfl (by kernel_rfl) (by kernel_rfl) (by kernel_rfl) (fun _ _ _ h => h) (by assumption) (by rfl) ?_
        simp only [Act.put, List.setIfInBounds_toArray, List.set_cons_zero, List.set_cons_succ]
        first
          | (refine held_take 2 172 (v := ?_) rfl rfl (by kernel_rfl) (by kernel_rfl) (by kernel_rfl) (fun _ _ _ h => h) (by assumption) (by rfl) ?_ ?_; rotate_left; (focus (intro w hSw; (obtain ⟨x0, x1, _, _⟩ := (DPl.rd hSw).cells); go_simp <;> with_reducible rfl)))
          | refine held_pass 2 172 rfl rfl (by kernel_rfl) (by kernel_rfl) (by kernel_rfl) (fun _ _ _ h => h) (by assumption) (by rfl) ?_
        simp only [Act.put, List.setIfInBounds_toArray, List.set_cons_zero, List.set_cons_succ]
        first
          | (refine held_take 5 175 (v := ?_) rfl rfl (by kernel_rfl) (by kernel_rfl) (by kernel_rfl) (fun _ _ _ h => h) (by assumption) (by rfl) ?_ ?_; rotate_left; (focus (intro w hSw; (obtain ⟨x0, x1, _, _⟩ := (DPl.rd hSw).cells); go_simp <;> with_reducible rfl)))
          | refine held_pass 5 175 rfl rfl (by kernel_rfl) (by kernel_rfl) (by kernel_rfl) (fun _ _ _ h => h) (by assumption) (by rfl) ?_
        simp only [Act.put, List.setIfInBounds_toArray, List.set_cons_zero, List.set_cons_succ]
        first
          | (refine held_take 6 176 (v := ?_) rfl rfl (by kernel_rfl) (by kernel_rfl) (by kernel_rfl) (fun _ _ _ h => h) (by assumption) (by rfl) ?_ ?_; rotate_left; (focus (intro w hSw; (obtain ⟨x0, x1, _, _⟩ := (DPl.rd hSw).cells); go_simp <;> with_reducible rfl)))
          | refine held_pass 6 176 rfl rfl (by kernel_rfl) (by kernel_rfl) (by kernel_rfl) (fun _ _ _ h => h) (by assumption) (by rfl) ?_
        simp only [Act.put, List.setIfInBounds_toArray, List.set_cons_zero, List.set_cons_succ]
        first
          | (refine held_take 7 177 (v := ?_) rfl rfl (by kernel_rfl) (by kernel_rfl) (by kernel_rfl) (fun _ _ _ h => h) (by assumption) (by rfl) ?_ ?_; rotate_left; (focus (intro w hSw; (obtain ⟨x0, x1, _, _⟩ := (DPl.rd hSw).cells); go_simp <;> with_reducible rfl)))
          | refine held_pass 7 177 rfl rfl (by kernel_rfl) (by kernel_rfl) (by kernel_rfl) (fun _ _ _ h => h) (by assumption) (by rfl) ?_
        simp only [Act.put, List.setIfInBounds_toArray, List.set_cons_zero, List.set_cons_succ]
        first
          | (refine held_take 8 178 (v := ?_) rfl rfl (by kernel_rfl) (by kernel_rfl) (by kernel_rfl) (fun _ _ _ h => h) (by assumption) (by rfl) ?_ ?_; rotate_left; (focus (intro w hSw; (obtain ⟨x0, x1, _, _⟩ := (DPl.rd hSw).cells); go_simp <;> with_reducible rfl)))
          | refine held_pass 8 178 rfl rfl (by kernel_rfl) (by kernel_rfl) (by kernel_rfl) (fun _ _ _ h => h) (by assumption) (by rfl) ?_
        simp only [Act.put, List.setIfInBounds_toArray, List.set_cons_zero, List.set_cons_succ]
        refine held_call 3 173 rfl rfl (by kernel_rfl) (by rfl) (fun K hK => ?_)
        simp only [Go.wp_at_succ, Go.wp_at_zero]
        go_simp
        go_at_call 15
        (with_reducible refine (K5.out _ hHeld).mono ?_)
        rintro e u2 ⟨ax, qx, rfl, hk, hb⟩
        have D2 := Lib.hid hb
        have KX := Lib.hid hk
        clear hb hk
        first | (with_reducible refine hK.out _ _ ?_ (fun hHeld => ?_)) | (go_wp2_with fail; refine hK.out _ _ ?_ (fun hHeld => ?_))
        · exact D2.out
        clear hK K
        try simp only [Act.put, List.setIfInBounds_toArray, List.set_cons_zero, List.set_cons_succ]
        refine held_narrow (S' := fun u => DPl n w g R Y j Z u ∧ Below u2.heap.size u2 u) (fun _ h => h.1) _ _ _ _ ?_
        have hHeld2 : (fun u => DPl n w g R Y j Z u ∧ Below u2.heap.size u2 u) u2 := ⟨D2.out, Below.refl _ _⟩
        first
          | (refine held_take 4 174 (v := ?_) rfl rfl (by kernel_rfl) (by kernel_rfl) (by kernel_rfl) (fun _ _ _ h => h) (by assumption) (by rfl) ?_ ?_; rotate_left; (focus (intro w hSw; (obtain ⟨x0, x1, _, _⟩ := (DPl.rd hSw.1).cells; have z3 := KX.out _ hSw.2); go_simp <;> with_reducible rfl)))
          | refine held_pass 4 174 rfl rfl (by kernel_rfl) (by kernel_rfl) (by kernel_rfl) (fun _ _ _ h => h) (by assumption) (by rfl) ?_
        simp only [Act.put, List.setIfInBounds_toArray, List.set_cons_zero, List.set_cons_succ]
        first
          | (refine held_take 9 179 (v := ?_) rfl rfl (by kernel_rfl) (by kernel_rfl) (by kernel_rfl) (fun _ _ _ h => h) (by assumption) (by rfl) ?_ ?_; rotate_left; (focus (intro w hSw; (obtain ⟨x0, x1, _, _⟩ := (DPl.rd hSw.1).cells; have z3 := KX.out _ hSw.2); go_simp <;> with_reducible rfl)))
          | refine held_pass 9 179 rfl rfl (by kernel_rfl) (by kernel_rfl) (by kernel_rfl) (fun _ _ _ h => h) (by assumption) (by rfl) ?_
        simp only [Act.put, List.setIfInBounds_toArray, List.set_cons_zero, List.set_cons_succ]
        first
          | (refine held_take 10 180 (v := ?_) rfl rfl (by kernel_rfl) (by kernel_rfl) (by kernel_rfl) (fun _ _ _ h => h) (by assumption) (by rfl) ?_ ?_; rotate_left; (focus (intro w hSw; (obtain ⟨x0, x1, _, _⟩ := (DPl.rd hSw.1).cells; have z3 := KX.out _ hSw.2); go_simp <;> with_reducible rfl)))
          | refine held_pass 10 180 rfl rfl (by kernel_rfl) (by kernel_rfl) (by kernel_rfl) (fun _ _ _ h => h) (by assumption) (by rfl) ?_
        simp only [Act.put, List.setIfInBounds_toArray, List.set_cons_zero, List.set_cons_succ]
        first
          | (refine held_take 11 2 (v := ?_) rfl rfl (by kernel_rfl) (by kernel_rfl) (by kernel_rfl) (fun _ _ _ h => h) (by assumption) (by rfl) ?_ ?_; rotate_left; (focus (intro w hSw; (obtain ⟨x0, x1, _, _⟩ := (DPl.rd hSw.1).cells; have z3 := KX.out _ hSw.2); go_simp <;> with_reducible rfl)))
          | refine held_pass 11 2 rfl rfl (by kernel_rfl) (by kernel_rfl) (by kernel_rfl) (fun _ _ _ h => h) (by assumption) (by rfl) ?_
        simp only [Act.put, List.setIfInBounds_toArray, List.set_cons_zero, List.set_cons_succ]
        refine wpAnyH_done (by kernel_rfl) ?_ _
        go_wp2
        go_returns
        exact ⟨rfl, D2.out.dk.bel⟩
theorem walk (v : Value) (l : List DStepV) (w : World) (hI : DSteps w w.heap.size v l) :
    Calls Try.prog 3 #[v] w fun e w' => e = .returned (.bool true) ∧ Below w.heap.size w w' := by
  obtain ⟨a, c, rfl, _⟩ := id hI
  exact main l l.length a c w hI


set_option maxRecDepth 100000 in
theorem lifted (os : Os) (started : os.Started) (H : Type) (enc : TypeId × Value → H) :
    ReturnsInHanded {} Try.checked os 3 .any (Rows.diskPlaysSpec.pre6 enc Try.prog Try.f3 Rows.diskPlaysRow.domain false) (Rows.diskPlaysSpec.post enc Try.prog Try.f3 false true false false) := by
  refine returnsInHanded_of_change (C := Try.checked) own started (by kernel_rfl) Try.func3
    (ChangeSpec.witness6 (enc := enc) (C := Try.checked) false ⟨#[], #[.slice none 0 0], []⟩ 8 (by kernel_rfl) (by kernel_rfl) (by kernel_rfl) (by kernel_rfl)) ?_
  intro W base args ds gs before hval0 hW hcnd _
  have hval : ∀ (j : Nat) t v, Try.f3.params[j]? = some t → args[j]? = some v → Value.okWide Try.prog W .any base t v := hval0
  have hW' := hW
  obtain ⟨p, q, hA0, hV, rfl, hfz, hnd⟩ := hW
  have hA : DataW.TrodAll enc Try.prog W 0 (fun _ => true) true Try.f3.params.toList args.toList ds p := hA0
  rw [Try.params3] at hA hval
  obtain ⟨v0, vs0, d0, ds0, p0, q0, hargs, rfl, rfl, h0, r0⟩ := trodAll_cons hA
  obtain ⟨rfl, rfl, rfl⟩ := trodAll_nil r0
  obtain rfl : args = #[v0] := by cases args; simp_all
  obtain ⟨rfl, rfl⟩ := trodVars_none hV
  obtain ⟨a0, len0, cap0, rfl⟩ := okWide_slice Try.underlying22 (hval 0 22 v0 rfl rfl)
  have k0 := h0
  have lt0 : ∀ x ∈ p0, x.block < W.heap.size := by obtain ⟨m, hm⟩ := k0; exact DataW.trod_lt m _ _ _ hm
  obtain ⟨l0, w0⟩ := dsteps_open h0
  clear hA0 hval0
  refine (walk (.slice a0 len0 cap0) l0 W w0).mono fun e W' ⟨he, bel⟩ => ?_
  subst he
  exact ⟨_, rfl, _, _, _, [], _, [], hW', trodAll_mk1 (shut_bool Try.underlying4 _), (trodAll_cons_mk (Below.trod laidOut (by kernel_rfl) (of_decide_eq_true (by kernel_rfl)) k0 bel lt0) trodAll_mk0), rfl, bel.frame _, fun h => by cases h⟩

theorem over : Rows.diskPlaysRow.holds Try.pinned (OpenSpec.ofChange Rows.diskPlaysSpec) :=
  OpenClaim.holds_of_wide 3 Try.f3 rfl rfl rfl rfl rfl rfl rfl ⟨rfl, rfl, rfl, rfl, rfl⟩ rfl rfl rfl rfl rfl (by kernel_rfl) Try.func3 (by kernel_rfl)
    (of_decide_eq_true (by kernel_rfl)) (by unfold Func.isWrapper; first | (rw [if_pos (by decide +kernel)]; kernel_rfl) | (rw [if_neg (by decide +kernel)]; exact ⟨rfl, rfl⟩))
    (fun os started H enc _ => lifted os started H enc)
end Go.Proofs.Ytgbfpabmkjkgnaa.DiskPlays

namespace Go.Proofs.Ytgbfpabmkjkgnaa
theorem diskPlays_holds : Rows.DiskPlaysSaid := DiskPlays.over
#print axioms diskPlays_holds
end Go.Proofs.Ytgbfpabmkjkgnaa
