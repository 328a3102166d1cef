/-
  The first chain has all, each stands where its number says; a line of changes from it never has a node twice (12.1, 12.2), as ChainFirsts says: for any number, any changes (at most 20). No condition.
-/
import Derived.Test.YtnliadnpoledmaaChainFirst0
import Derived.Test.YtnliadnpoledmaaClockArgs
namespace Go.Proofs.Ytnliadnpoledmaa.ChainFirsts
open Go.ChangeShapes Go.WideShapes Go.ChangeAt Go.RowKit

set_option maxHeartbeats 8000000 in
set_option maxRecDepth 100000 in
theorem main (n : Int) (al : Option Addr) (m cl : Nat) (l : List Int) (w : World) (hL : Ints w w.heap.size (.slice al m cl) l) (K : Nat) (h1 : 1 ≤ K) (h5 : K ≤ 5) (E : Hid (wrap64 (1 + wrap64 ((IntKind.u64.wrap n).tmod 5)) = (K : Int))) :
    Calls Try.prog 3 #[.int .i64 n, .slice al m cl] w fun e w' => e = .returned (.bool true) ∧ Below w.heap.size w w' := by
  have HT := Lib.hid (fun u => told12_any u)
  have HL := Lib.hid hL
  have HF := Lib.hid (chfirst_in K h1 h5)
  have HU := Lib.hid (Up.first h1 h5)
  clear hL
  go_enter Try.func3, Try.ntmps3
  go_wp2_with fail
  rw [E.out]
  refine (HF.out _).mono ?_
  rintro e w1 ⟨a1, c1, rfl, O1, B1⟩
  have hK : (firstL K).length = K := firstL_length K
  have C1 : Hid (CF w (w1.alloc (.cells #[.int .i64 1, .slice a1 K c1] 25)) w1.heap.size 1 (.slice a1 K c1) (firstL K)) := CF.fresh (by rw [hK]; exact O1) B1
  clear O1 B1 HF E hK
  obtain ⟨p0, p1, _, _⟩ := C1.out.c.cells
  go_wp2_with fail
  clear p0 p1
  obtain ⟨W, hW⟩ : ∃ W, W = w1.alloc (.cells #[.int .i64 1, .slice a1 K c1] 25) := ⟨_, rfl⟩
  obtain ⟨bc, hbc⟩ : ∃ b, b = w1.heap.size := ⟨_, rfl⟩
  rw [← hW, ← hbc] at C1 ⊢
  clear hW hbc
  have HCE : Hid (∃ b off, a1 = some ⟨b, off, none⟩ ∧ b < W.heap.size ∧ ∀ k : Nat, k < K → W.cell? ⟨b, off + k, none⟩ = some (.int .i64 (k : Int))) := by
    obtain ⟨b, off, rfl, hb, _⟩ := (ints_cell C1.out.i).2 0 (by omega)
    refine ⟨b, off, rfl, hb, fun k hk => ?_⟩
    obtain ⟨b2, off2, he, _, hc⟩ := (ints_cell C1.out.i).2 k hk
    simp only [Option.some.injEq, Addr.mk.injEq] at he
    obtain ⟨rfl, rfl, _⟩ := he
    rwa [firstL_get hk] at hc
  obtain ⟨fb, fo, rfl, hfb, hfc⟩ := HCE.out
  have HFC := Lib.hid hfc
  clear hfc HCE
  go_loopw [8] (fun s8 wr => ∃ i : Nat, s8 = .int .i64 i ∧ i ≤ K ∧ Hid (Below W.heap.size W wr)) (fun s8 _ => K - (intOf s8).toNat)
  case atStart => exact ⟨0, rfl, Nat.zero_le _, Below.refl _ _⟩
  case round =>
    obtain ⟨i, rfl, hi, HB⟩ := hrel
    have C2 := Lib.hid (C1.out.step HB.out)
    by_cases hlt : i < K
    · have x0 := (HB.out.cell (p := ⟨fb, fo + i, none⟩) hfb).trans (HFC.out i hlt)
      have hnd := HU.out.may.2.2.2.2.2
      have HAV : Hid (∀ u, Below wr.heap.size wr u → Calls Try.prog 9 #[.agg #[.int .i64 1, .slice (some ⟨fb, fo, none⟩) K c1], .int .i64 i] u fun e w' => e = .returned (.int .i64 ((i : Int) - 1)) ∧ Below u.heap.size u w') := fun u hu => chabove_r 1 _ (firstL K) (by rw [firstL_length]; omega) i _ u (C2.out.step hu).i (Nat.le_refl _) (firstL_above hnd hlt)
      have HHS : Hid (∀ u, Below wr.heap.size wr u → Calls Try.prog 10 #[.agg #[.int .i64 1, .slice (some ⟨fb, fo, none⟩) K c1], .int .i64 K] u fun e w' => e = .returned (.bool false) ∧ Below u.heap.size u w') := fun u hu => chhas_r 1 _ (firstL K) (by rw [firstL_length]; omega) K _ u (C2.out.step hu).i (Nat.le_refl _) (decide_eq_false (firstL_not K))
      have kw : wrap64 ((i : Int) - 1) = (i : Int) - 1 := IntWalk.wrap64_in _ (by omega)
      have i1 : (i : Int) < (K : Int) := by omega
      have i0 : (0 : Int) ≤ (i : Int) := by omega
      clear hnd
      obtain ⟨p0, p1, _, _⟩ := C2.out.c.cells
      go_wp2_with fail
      clear p0 p1 x0
      refine (HAV.out _ (Below.refl _ _)).mono ?_
      rintro e w2 ⟨rfl, B2⟩
      have C3 := Lib.hid (C2.out.step B2)
      have HB2 := Lib.hid B2
      clear B2
      obtain ⟨p0, p1, _, _⟩ := C3.out.c.cells
      go_wp2_with fail
      clear p0 p1
      refine (HHS.out _ HB2.out).mono ?_
      rintro e w3 ⟨rfl, B3⟩
      have HB3 : Hid (Below W.heap.size W w3) := HB.out.trans ((HB2.out.trans (B3.mono HB2.out.size)).mono HB.out.size)
      clear B3
      go_wp2
      go_roundw
      case rel => exact ⟨i + 1, by go_num, by omega, HB3.out⟩
      case measure => simp [intOf]; omega
    · obtain rfl : i = K := by omega
      clear hlt hi hfb HFC
      go_wp2_with fail
      obtain ⟨wo, hwo⟩ : ∃ wo, wo = wr := ⟨_, rfl⟩
      subst hwo
      go_loopw [9] (fun s9 wr => ∃ (j : Nat) (ex : Int) (va : Option Addr) (vn vc : Nat) (C : List Int), s9 = .int .i64 j ∧ j ≤ m ∧ j ≤ 20 ∧ Hid (CF w wr bc ex (.slice va vn vc) C ∧ Up i j ex C)) (fun s9 _ => 20 - (intOf s9).toNat)
      case atStart => exact ⟨0, 1, _, _, _, _, rfl, Nat.zero_le _, Nat.zero_le _, C2.out, HU.out⟩
      case round =>
        clear C1 C2 HB HU
        obtain ⟨j, ex, va, vn, vc, C, rfl, hjm, hj20, HR⟩ := hrel
        by_cases hlt : j < m
        · by_cases hlt4 : j < 20
          · have hmay := HR.out.2.may
            have hi20 : (j : Int) < 20 := by omega
            have j0 : (0 : Int) ≤ (j : Int) := by omega
            have j1 : (j : Int) < (m : Int) := by omega
            obtain ⟨lb, lo, rfl, hlb, hlc⟩ := (ints_cell HL.out).2 j hlt
            have x0 := (HR.out.1.bel.cell (p := ⟨lb, lo + j, none⟩) hlb).trans hlc
            generalize l.getD j 0 = z at x0
            obtain ⟨t, ht, et⟩ := left_of z i (by omega) (by omega)
            have ET := Lib.hid et
            have ku : IntKind.u64.wrap (i : Int) = (i : Int) := by rw [IntKind.wrap_u64]; omega
            have n0 : ((i : Int) == 0) = false := beq_eq_false_iff_ne.2 (by omega)
            have n1 : (0 : Int) < (i : Int) := by omega
            have n2 : ¬ ((i : Int) = 0) := by omega
            clear hlb hlc et
            have he := may_wrap hmay
            have hC5 : C.length ≤ 5 := may_le hmay
            by_cases hin : (t : Int) ∈ C
            · have hm2 := Up.with_not hmay hin
              obtain rfl : vn = C.length := (ints_cell HR.out.1.i).1
              have HWI : Hid (Calls Try.prog 11 #[.agg #[.int .i64 ex, .slice va C.length vc], .int .i64 t] wr fun e w' => e = .returned (.tuple #[.agg #[.int .i64 0, .slice none 0 0], .int .i64 1]) ∧ Below wr.heap.size wr w') := (chwith_in ex _ C t _ wr HR.out.1.i (Nat.le_refl _) (by omega) he (.inr ⟨hm2, rfl, rfl⟩)).mono fun e w' ⟨a, n, c, h1, _, h3, h4⟩ => by
                obtain ⟨rfl, rfl, rfl⟩ := h3 rfl
                exact ⟨h1, h4⟩
              have HIN := Lib.hid hin
              have HE := Lib.hid he
              have HM1 := Lib.hid hmay
              have HUR := Lib.hid HR.out.2
              clear he hm2 hin hmay
              obtain ⟨p0, p1, _, _⟩ := HR.out.1.c.cells
              go_wp2_with fail
              rw [ET.out]
              refine HWI.out.mono ?_
              rintro e w2 ⟨rfl, B2⟩
              have D0 : Hid (CF w (w2.alloc (.cells #[.int .i64 0, .slice none 0 0] 25)) w2.heap.size 0 (.slice none 0 0) []) := CF.fresh (World.ownsRow_nil _ _ _ _) (HR.out.1.bel.trans (B2.mono HR.out.1.bel.size))
              have C0 : Hid (CF w (w2.alloc (.cells #[.int .i64 0, .slice none 0 0] 25)) bc ex (.slice va C.length vc) C) := (HR.out.1.step B2).step (below_alloc _ _)
              have hbw : Hid (bc ≠ w2.heap.size) := by
                have h8 := HR.out.1.c.lt
                have h9 := B2.size
                show _ ≠ _
                omega
              clear B2 HWI HR p0 p1 x0
              obtain ⟨p0, p1, p2, p3⟩ := C0.out.c.cells
              obtain ⟨q0, q1, q2, q3⟩ := D0.out.c.cells
              go_wp2_with fail
              clear p0 p1 p2 p3 q0 q1 q2 q3
              refine (chhas_r ex _ C (by omega) t _ _ C0.out.i (Nat.le_refl _) (decide_eq_true HIN.out)).mono ?_
              rintro e y0 ⟨rfl, B⟩
              have C1 := Lib.hid (C0.out.step B)
              have D1 := Lib.hid (D0.out.step B)
              clear B C0 D0
              obtain ⟨u1, hu1⟩ : ∃ u, u = y0.alloc (.cells #[.int .i64 t] 3) := ⟨_, rfl⟩
              have hbu : Below y0.heap.size y0 u1 := by rw [hu1]; exact below_alloc _ _
              have hsu : u1.heap.size = y0.heap.size + 1 := by rw [hu1]; simp
              have hIu : Ints u1 (y0.heap.size + 1) (.slice (some ⟨y0.heap.size, 0, none⟩) 1 1) [(t : Int)] := by rw [hu1]; exact ints_lit y0 [(t : Int)] (show 1 ≤ maxLen by decide)
              have HWO : Hid (∀ (ep' er : Int), ((ChainV.may ⟨ex + 1, leftL C [(t : Int)]⟩ ∧ ep' = ex + 1 ∧ er = 0) ∨ (¬ ChainV.may ⟨ex + 1, leftL C [(t : Int)]⟩ ∧ ep' = 0 ∧ er = 1)) → _) := fun ep' er hE => chwithout_r (ep' := ep') (er := er) ex (.slice va C.length vc) C (.slice (some ⟨y0.heap.size, 0, none⟩) 1 1) [(t : Int)] (y0.heap.size + 1) u1 ((C1.out.step hbu).i.mono (by omega)) hIu (by omega) (by omega) (by simp) (may_wf HM1.out) (fun x hx => by rw [List.mem_singleton] at hx; exact ⟨by omega, by omega⟩) HE.out hE
              have C2 := Lib.hid (C1.out.step hbu)
              have D2 := Lib.hid (D1.out.step hbu)
              obtain ⟨p0, p1, p2, p3⟩ := C1.out.c.cells
              obtain ⟨q0, q1, q2, q3⟩ := D1.out.c.cells
              clear hIu hsu hbu
              go_wp2_with fail
              clear p0 p1 p2 p3 q0 q1 q2 q3
              rw [← hu1]
              clear hu1 C1 D1
              by_cases hlen : 1 < C.length
              · have hm3 : ChainV.may ⟨ex + 1, leftL C [(t : Int)]⟩ := (leftL_may HM1.out).2 ⟨by have := HUR.out.top; omega, fun e => (left_one_nil HM1.out.2.2.2.2.2 HIN.out).1 e hlen⟩
                have HW3 := Lib.hid (HWO.out (ex + 1) 0 (.inl ⟨hm3, rfl, rfl⟩))
                have HM3 := Lib.hid hm3
                have HUP := Lib.hid (HUR.out.left hm3)
                have hl1 : (1 : Int) < (C.length : Int) := by omega
                clear HWO hm3
                refine HW3.out.mono ?_
                rintro e w3 ⟨a3, n3, c3, rfl, h2, _, B3⟩
                obtain ⟨rfl, O3⟩ := h2 rfl
                have C3 := Lib.hid (C2.out.step B3)
                have D3 := Lib.hid (D2.out.step B3)
                have O4 := Lib.hid (own_base O3 C2.out.bel.size)
                clear B3 O3 h2 C2 D2 HW3
                have D4 := Lib.hid (D3.out.stored (e2 := ex + 1) O4.out)
                have C4 := Lib.hid (C3.out.other (e2 := ex + 1) (v2 := .slice a3 (leftL C [(t : Int)]).length c3) D3.out hbw.out)
                obtain ⟨p0, p1, p2, p3⟩ := C4.out.c.cells
                obtain ⟨q0, q1, q2, q3⟩ := D4.out.c.cells
                obtain ⟨r0, r1, r2, r3⟩ := D3.out.c.cells
                unfold chW at p0 p1 p2 p3 q0 q1 q2 q3
                go_wp2_with fail
                clear p0 p1 p2 p3 q0 q1 q2 q3 r0 r1 r2 r3
                refine (chnext_r ex _ C (ex + 1) _ (leftL C [(t : Int)]) i _ _ C4.out.i D4.out.i (Nat.le_refl _) (decide_eq_true (left_next HM1.out HM3.out HUR.out.lt))).mono ?_
                rintro e y4 ⟨rfl, B⟩
                have C5 := Lib.hid (C4.out.step B)
                have D5 := Lib.hid (D4.out.step B)
                clear B C4 D4 C3 D3
                obtain ⟨p0, p1, p2, p3⟩ := C5.out.c.cells
                obtain ⟨q0, q1, q2, q3⟩ := D5.out.c.cells
                go_wp2_with fail
                clear p0 p1 p2 p3 q0 q1 q2 q3
                refine (refmaychain_r (ex + 1) _ (leftL C [(t : Int)]) _ _ D5.out.i (Nat.le_refl _) true (decide_eq_true HM3.out).symm).mono ?_
                rintro e y5 ⟨rfl, B⟩
                have C6 := Lib.hid (C5.out.step B)
                have D6 := Lib.hid (D5.out.step B)
                clear B C5 D5
                obtain ⟨p0, p1, p2, p3⟩ := C6.out.c.cells
                obtain ⟨q0, q1, q2, q3⟩ := D6.out.c.cells
                go_wp2_with fail
                clear p0 p1 p2 p3 q0 q1 q2 q3
                refine (chnext_r (ex + 1) _ (leftL C [(t : Int)]) ex _ C i _ _ D6.out.i C6.out.i (Nat.le_refl _) (decide_eq_false (fun h => by have := h.2.2.2.2.1; omega))).mono ?_
                rintro e y6 ⟨rfl, B⟩
                have C7 := Lib.hid (C6.out.step B)
                have D7 := Lib.hid (D6.out.step B)
                clear B C6 D6
                obtain ⟨p0, p1, p2, p3⟩ := C7.out.c.cells
                obtain ⟨q0, q1, q2, q3⟩ := D7.out.c.cells
                go_wp2_with fail
                go_roundw
                case rel => exact ⟨j + 1, ex + 1, a3, (leftL C [(t : Int)]).length, c3, leftL C [(t : Int)], by go_num, by omega, by omega, C7.out.stored (e2 := ex + 1) D7.out.row, HUP.out⟩
                case measure => simp [intOf]; omega
              · have hm3 : ¬ ChainV.may ⟨ex + 1, leftL C [(t : Int)]⟩ := fun hm => ((leftL_may HM1.out).1 hm).2 ((left_one_nil HM1.out.2.2.2.2.2 HIN.out).2 hlen)
                have HW3 := Lib.hid (HWO.out 0 1 (.inr ⟨hm3, rfl, rfl⟩))
                have hl1 : ¬ (1 : Int) < (C.length : Int) := by omega
                have HUP := Lib.hid HUR.out.on
                clear HWO hm3
                refine HW3.out.mono ?_
                rintro e w3 ⟨a3, n3, c3, rfl, _, h3, B3⟩
                obtain ⟨rfl, rfl, rfl⟩ := h3 rfl
                have C3 := Lib.hid (C2.out.step B3)
                have D3 := Lib.hid (D2.out.step B3)
                clear B3 h3 C2 D2 HW3
                have C4 := Lib.hid (C3.out.other (e2 := 0) (v2 := .slice none 0 0) D3.out hbw.out)
                obtain ⟨p0, p1, p2, p3⟩ := C4.out.c.cells
                obtain ⟨r0, r1, r2, r3⟩ := D3.out.c.cells
                unfold chW at p0 p1 p2 p3
                go_wp2_with fail
                go_roundw
                case rel => exact ⟨j + 1, ex, va, C.length, vc, C, by go_num, by omega, by omega, C4.out, HUP.out⟩
                case measure => simp [intOf]; omega
            · have hm2 := HR.out.2.with_may hlt4 h5 ht hin
              have HWI : Hid (Calls Try.prog 11 #[.agg #[.int .i64 ex, .slice va vn vc], .int .i64 t] wr fun e w' => ∃ a c, e = .returned (.tuple #[.agg #[.int .i64 (ex + 1), .slice a (C.length + 1) c], .int .i64 0]) ∧ w'.ownsRow wr.heap.size 3 1 (.slice a (C.length + 1) c) (C.length + 1) (intCells (C ++ [(t : Int)])) ∧ Hid (Below wr.heap.size wr w')) := (chwith_in ex _ C t _ wr HR.out.1.i (Nat.le_refl _) (by omega) he (.inl ⟨hm2, rfl, rfl⟩)).mono fun e w' ⟨a, n, c, h1, h2, _, h4⟩ => by
                obtain ⟨h5, h6⟩ := h2 rfl
                subst h5
                exact ⟨a, c, h1, h6, h4⟩
              have HUP := Lib.hid (HR.out.2.snoc ht hm2)
              have HIN := Lib.hid hin
              have HM2 := Lib.hid hm2
              have HE := Lib.hid he
              clear he hm2 hin
              obtain ⟨p0, p1, _, _⟩ := HR.out.1.c.cells
              go_wp2_with fail
              rw [ET.out]
              refine HWI.out.mono ?_
              rintro e w2 ⟨a2, c2, rfl, O2, B2⟩
              have hB := HR.out.1.bel.size
              have D0 : Hid (CF w (w2.alloc (.cells #[.int .i64 (ex + 1), .slice a2 (C.length + 1) c2] 25)) w2.heap.size (ex + 1) (.slice a2 (C.length + 1) c2) (C ++ [(t : Int)])) := CF.fresh (by rw [List.length_append, List.length_singleton]; exact own_base O2 hB) (HR.out.1.bel.trans (B2.out.mono hB))
              have C0 : Hid (CF w (w2.alloc (.cells #[.int .i64 (ex + 1), .slice a2 (C.length + 1) c2] 25)) bc ex (.slice va vn vc) C) := (HR.out.1.step B2.out).step (below_alloc _ _)
              have HUR := Lib.hid HR.out.2
              have hDl : Hid ((C ++ [(t : Int)]).length = C.length + 1) := by show _ = _; rw [List.length_append, List.length_singleton]
              have hM1 := Lib.hid hmay
              have HX : Hid (chAt (C ++ [(t : Int)]) (((C ++ [(t : Int)]).length : Int) - 1) = t) := by
                show _ = _
                rw [hDl.out, show ((C.length + 1 : Nat) : Int) - 1 = (C.length : Int) by omega, chAt_in (by rw [hDl.out]; omega), List.getD_eq_getElem?_getD, List.getElem?_append_right (Nat.le_refl _)]
                simp
              clear O2 B2 HWI HR hB p0 p1 x0 hmay
              obtain ⟨p0, p1, p2, p3⟩ := C0.out.c.cells
              obtain ⟨q0, q1, q2, q3⟩ := D0.out.c.cells
              go_wp2_with fail
              clear p0 p1 p2 p3 q0 q1 q2 q3
              refine (chhas_r ex _ C (by omega) t _ _ C0.out.i (Nat.le_refl _) (decide_eq_false HIN.out)).mono ?_
              rintro e y0 ⟨rfl, B⟩
              have C1 := Lib.hid (C0.out.step B)
              have D1 := Lib.hid (D0.out.step B)
              clear B C0 D0
              obtain ⟨p0, p1, p2, p3⟩ := C1.out.c.cells
              obtain ⟨q0, q1, q2, q3⟩ := D1.out.c.cells
              go_wp2_with fail
              clear p0 p1 p2 p3 q0 q1 q2 q3
              refine (chtail_r (ex + 1) _ (C ++ [(t : Int)]) (by rw [hDl.out]; omega) _ _ D1.out.i (Nat.le_refl _) HX.out).mono ?_
              rintro e y1 ⟨rfl, B⟩
              have C2 := Lib.hid (C1.out.step B)
              have D2 := Lib.hid (D1.out.step B)
              clear B C1 D1
              obtain ⟨p0, p1, p2, p3⟩ := C2.out.c.cells
              obtain ⟨q0, q1, q2, q3⟩ := D2.out.c.cells
              go_wp2_with fail
              clear p0 p1 p2 p3 q0 q1 q2 q3
              refine (chnext_r ex _ C (ex + 1) _ (C ++ [(t : Int)]) i _ _ C2.out.i D2.out.i (Nat.le_refl _) (decide_eq_true (with_next hM1.out HM2.out HUR.out.lt (by omega)))).mono ?_
              rintro e y2 ⟨rfl, B⟩
              have C3 := Lib.hid (C2.out.step B)
              have D3 := Lib.hid (D2.out.step B)
              clear B C2 D2
              obtain ⟨p0, p1, p2, p3⟩ := C3.out.c.cells
              obtain ⟨q0, q1, q2, q3⟩ := D3.out.c.cells
              go_wp2_with fail
              clear p0 p1 p2 p3 q0 q1 q2 q3
              refine (refmaychain_r (ex + 1) _ (C ++ [(t : Int)]) _ _ D3.out.i (Nat.le_refl _) true (decide_eq_true HM2.out).symm).mono ?_
              rintro e y3 ⟨rfl, B⟩
              have C4 := Lib.hid (C3.out.step B)
              have D4 := Lib.hid (D3.out.step B)
              clear B C3 D3
              obtain ⟨p0, p1, p2, p3⟩ := C4.out.c.cells
              obtain ⟨q0, q1, q2, q3⟩ := D4.out.c.cells
              go_wp2_with fail
              clear p0 p1 p2 p3 q0 q1 q2 q3
              refine (chnext_r (ex + 1) _ (C ++ [(t : Int)]) ex _ C i _ _ D4.out.i C4.out.i (Nat.le_refl _) (decide_eq_false (fun h => by have := h.2.2.2.2.1; omega))).mono ?_
              rintro e y4 ⟨rfl, B⟩
              have C5 := Lib.hid (C4.out.step B)
              have D5 := Lib.hid (D4.out.step B)
              clear B C4 D4
              obtain ⟨p0, p1, p2, p3⟩ := C5.out.c.cells
              obtain ⟨q0, q1, q2, q3⟩ := D5.out.c.cells
              go_wp2_with fail
              go_roundw
              case rel => exact ⟨j + 1, ex + 1, a2, C.length + 1, c2, C ++ [(t : Int)], by go_num, by omega, by omega, C5.out.stored (e2 := ex + 1) D5.out.row, HUP.out⟩
              case measure => simp [intOf]; omega
          · go_wp2_with fail
            refine (HT.out _).mono ?_
            rintro e w9 ⟨rfl, B9⟩
            have CC := Lib.hid (below_step HR.out.1.bel B9)
            clear B9
            go_wp2
            go_returns
            exact ⟨rfl, CC.out⟩
        · go_wp2_with fail
          refine (HT.out _).mono ?_
          rintro e w9 ⟨rfl, B9⟩
          have CC := Lib.hid (below_step HR.out.1.bel B9)
          clear B9
          go_wp2
          go_returns
          exact ⟨rfl, CC.out⟩

theorem walk (n : Int) (v : Value) (l : List Int) (w : World) (_ : (Lit.int .i64 n).wf = true) (hL : Ints w w.heap.size v l) :
    Calls Try.prog 3 #[.int .i64 n, v] w fun e w' => e = .returned (.bool true) ∧ Below w.heap.size w w' := by
  obtain ⟨al, cl, rfl⟩ : ∃ a c, v = .slice a l.length c := by obtain ⟨a, c, h, _⟩ := hL; exact ⟨a, c, h⟩
  obtain ⟨q, hq, eq⟩ := left_of n 5 (by decide) (by decide)
  have eq' : wrap64 ((IntKind.u64.wrap n).tmod 5) = (q : Int) := eq
  exact main n al l.length cl l w hL (q + 1) (by omega) (by omega) (by show _ = _; rw [eq', IntWalk.wrap64_in _ (by omega)]; omega)

set_option maxRecDepth 100000 in
theorem lifted (os : Os) (started : os.Started) (H : Type) (enc : TypeId × Value → H) :
    ReturnsInHanded {} Try.checked os 3 .any (Rows.chainFirstsSpec.pre6 enc Try.prog Try.f3 Rows.chainFirstsRow.domain false) (Rows.chainFirstsSpec.post enc Try.prog Try.f3 false true false false) := by
  refine returnsInHanded_of_change (C := Try.checked) own started (by kernel_rfl) Try.func3
    (ChangeSpec.witness6 (enc := enc) (C := Try.checked) false ⟨#[], #[.int .i64 0, .slice none 0 0], []⟩ 8 (by kernel_rfl) (by kernel_rfl) (by kernel_rfl) (by kernel_rfl)) ?_
  intro W base args ds gs before hval0 hW hcnd _
  have hval : ∀ (j : Nat) t v, Try.f3.params[j]? = some t → args[j]? = some v → Value.okWide Try.prog W .any base t v := hval0
  have hW' := hW
  obtain ⟨p, q, hA0, hV, rfl, hfz, hnd⟩ := hW
  have hA : DataW.TrodAll enc Try.prog W 0 (fun _ => true) true Try.f3.params.toList args.toList ds p := hA0
  rw [Try.params3] at hA hval
  obtain ⟨v0, vs0, d0, ds0, p0, q0, hargs, rfl, rfl, h0, r0⟩ := trodAll_cons hA
  obtain ⟨v1, vs1, d1, ds1, p1, q1, rfl, rfl, rfl, h1, r1⟩ := trodAll_cons r0
  obtain ⟨rfl, rfl, rfl⟩ := trodAll_nil r1
  obtain rfl : args = #[v0, v1] := by cases args; simp_all
  obtain ⟨rfl, rfl⟩ := trodVars_none hV
  obtain ⟨a0, rfl, rfl, rfl, w0⟩ := open_int Try.underlying3 (hval 0 3 v0 rfl rfl) h0
  obtain ⟨a1, len1, cap1, rfl⟩ := okWide_slice Try.underlying22 (hval 1 22 v1 rfl rfl)
  have k1 := h1
  have lt1 : ∀ x ∈ p1, x.block < W.heap.size := by obtain ⟨m, hm⟩ := k1; exact DataW.trod_lt m _ _ _ hm
  obtain ⟨l1, w1⟩ := cints_open h1
  clear hA0 hval0
  refine (walk a0 (.slice a1 len1 cap1) l1 W w0 w1).mono fun e W' ⟨he, bel⟩ => ?_
  subst he
  exact ⟨_, rfl, _, _, _, [], _, [], hW', trodAll_mk1 (shut_bool Try.underlying4 _), (trodAll_cons_mk (shut_int Try.underlying3 w0) (trodAll_cons_mk (Below.trod laidOut (by kernel_rfl) (of_decide_eq_true (by kernel_rfl)) k1 bel lt1) trodAll_mk0)), rfl, bel.frame _, fun h => by cases h⟩

theorem over : Rows.chainFirstsRow.holds Try.pinned (OpenSpec.ofChange Rows.chainFirstsSpec) :=
  OpenClaim.holds_of_wide 3 Try.f3 rfl rfl rfl rfl rfl rfl rfl ⟨rfl, rfl, rfl, rfl, rfl⟩ rfl rfl rfl rfl rfl (by kernel_rfl) Try.func3 (by kernel_rfl)
    (of_decide_eq_true (by kernel_rfl)) (by unfold Func.isWrapper; first | (rw [if_pos (by decide +kernel)]; kernel_rfl) | (rw [if_neg (by decide +kernel)]; exact ⟨rfl, rfl⟩))
    (fun os started H enc _ => lifted os started H enc)
end Go.Proofs.Ytnliadnpoledmaa.ChainFirsts

namespace Go.Proofs.Ytnliadnpoledmaa
theorem chainFirsts_holds : Rows.ChainFirstsSaid := ChainFirsts.over
#print axioms chainFirsts_holds
end Go.Proofs.Ytnliadnpoledmaa
