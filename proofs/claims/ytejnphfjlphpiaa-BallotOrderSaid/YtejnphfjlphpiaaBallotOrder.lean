/-
  The next ballot of a node is greater, its own, and none of its own stands between (11.1, 11.2), as BallotOrder says: for any ballots, any node. No condition.
-/
import Derived.Test.YtejnphfjlphpiaaBallotArgs
import Derived.Test.YtejnphfjlphpiaaBallotT
import Derived.Test.YtejnphfjlphpiaaClockW
namespace Go.Proofs.Ytejnphfjlphpiaa.BallotOrder
open Go.ChangeShapes Go.WideShapes Go.ChangeAt Go.RowKit

set_option maxRecDepth 100000 in
set_option maxHeartbeats 4000000 in
theorem bad (r n k s m q : Int) (w : World) (E : Hid (wrap64 ((IntKind.u64.wrap k).tmod 5) = q)) (hm : mayV r n = false) :
    Calls Try.prog 4 #[.agg #[.int .i64 r, .int .i64 n], .int .i64 k, .agg #[.int .i64 s, .int .i64 m]] w fun e w' => e = .returned (.bool true) ∧ Below w.heap.size w w' := by
  have HT := Lib.hid (fun u => told11_any u)
  have HM := Lib.hid (fun u => vmay_r r n u hm)
  have HN := Lib.hid (fun u => vnext_r r n q u (nextV_may hm))
  clear hm
  go_enter Try.func4, Try.ntmps4
  go_wp2_with fail
  refine (HM.out _).mono ?_
  rintro e w1 ⟨rfl, B1⟩
  have D1 : Hid (BalB w1 w.heap.size r n) := ((BalB.fresh w _ _).alloc _).keep B1 (by simp; omega)
  have E1 : Hid (BalB w1 (w.heap.size + 1) s m) := (show BalB _ (w.heap.size + 1) s m by have := BalB.fresh (w.alloc (.cells #[.int .i64 r, .int .i64 n] 23)) s m; simpa using this).keep B1 (by simp)
  have C1 : Hid (Below w.heap.size w w1) := (((Below.refl _ w).alloc (Nat.le_refl _) _).alloc (by simp) _).trans (B1.mono (by simp; omega))
  obtain ⟨c0, c1, _, _⟩ := D1.out.cells
  have l0 := D1.out.lt
  have l1 := E1.out.lt
  clear B1
  go_wp2_with fail
  rw [E.out]
  refine (HN.out _).mono ?_
  rintro e w2 ⟨rfl, B2⟩
  have D2 : Hid (BalB w2 w.heap.size r n) := D1.out.keep B2 D1.out.lt
  have E2 : Hid (BalB w2 (w.heap.size + 1) s m) := E1.out.keep B2 E1.out.lt
  have C2 : Hid (Below w.heap.size w w2) := C1.out.trans (B2.mono C1.out.size)
  clear B2 c0 c1
  have D3 : Hid (BalB (w2.alloc (.cells #[.int .i64 0, .int .i64 0] 23)) w.heap.size r n) := D2.out.alloc _
  have C3 : Hid (Below w.heap.size w (w2.alloc (.cells #[.int .i64 0, .int .i64 0] 23))) := C2.out.alloc C2.out.size _
  go_wp2_with fail
  refine (HT.out _).mono ?_
  rintro e w3 ⟨rfl, B3⟩
  have D4 : Hid (BalB w3 w.heap.size r n) := D3.out.keep B3 D3.out.lt
  have C4 : Hid (Below w.heap.size w w3) := C3.out.trans (B3.mono C3.out.size)
  obtain ⟨c0, c1, _, _⟩ := D4.out.cells
  clear B3
  go_wp2
  go_returns
  exact ⟨rfl, C4.out⟩

set_option maxRecDepth 100000 in
set_option maxHeartbeats 4000000 in
theorem full (r n k s m q : Int) (w : World) (E : Hid (wrap64 ((IntKind.u64.wrap k).tmod 5) = q)) (hm : mayV r n = true) (hr : r = 1099511627776) (hn : nextV r n q = (0, 0, false)) :
    Calls Try.prog 4 #[.agg #[.int .i64 r, .int .i64 n], .int .i64 k, .agg #[.int .i64 s, .int .i64 m]] w fun e w' => e = .returned (.bool true) ∧ Below w.heap.size w w' := by
  have HT := Lib.hid (fun u => told11_any u)
  have HM := Lib.hid (fun u => vmay_r r n u hm)
  have HN := Lib.hid (fun u => vnext_r r n q u hn)
  have HR := Lib.hid hr
  clear hm hn hr
  go_enter Try.func4, Try.ntmps4
  go_wp2_with fail
  refine (HM.out _).mono ?_
  rintro e w1 ⟨rfl, B1⟩
  have D1 : Hid (BalB w1 w.heap.size r n) := ((BalB.fresh w _ _).alloc _).keep B1 (by simp; omega)
  have E1 : Hid (BalB w1 (w.heap.size + 1) s m) := (show BalB _ (w.heap.size + 1) s m by have := BalB.fresh (w.alloc (.cells #[.int .i64 r, .int .i64 n] 23)) s m; simpa using this).keep B1 (by simp)
  have C1 : Hid (Below w.heap.size w w1) := (((Below.refl _ w).alloc (Nat.le_refl _) _).alloc (by simp) _).trans (B1.mono (by simp; omega))
  obtain ⟨c0, c1, _, _⟩ := D1.out.cells
  have l0 := D1.out.lt
  have l1 := E1.out.lt
  clear B1
  go_wp2_with fail
  rw [E.out]
  refine (HN.out _).mono ?_
  rintro e w2 ⟨rfl, B2⟩
  have D2 : Hid (BalB w2 w.heap.size r n) := D1.out.keep B2 D1.out.lt
  have E2 : Hid (BalB w2 (w.heap.size + 1) s m) := E1.out.keep B2 E1.out.lt
  have C2 : Hid (Below w.heap.size w w2) := C1.out.trans (B2.mono C1.out.size)
  clear B2 c0 c1
  have D3 : Hid (BalB (w2.alloc (.cells #[.int .i64 0, .int .i64 0] 23)) w.heap.size r n) := D2.out.alloc _
  have C3 : Hid (Below w.heap.size w (w2.alloc (.cells #[.int .i64 0, .int .i64 0] 23))) := C2.out.alloc C2.out.size _
  go_wp2_with fail
  refine (HT.out _).mono ?_
  rintro e w3 ⟨rfl, B3⟩
  have D4 : Hid (BalB w3 w.heap.size r n) := D3.out.keep B3 D3.out.lt
  have C4 : Hid (Below w.heap.size w w3) := C3.out.trans (B3.mono C3.out.size)
  obtain ⟨c0, c1, _, _⟩ := D4.out.cells
  clear B3
  go_wp2
  go_returns
  exact ⟨ret_bool (by rw [HR.out]; rfl), C4.out⟩

set_option maxRecDepth 100000 in
set_option maxHeartbeats 4000000 in
theorem below (r n k s m q : Int) (w : World) (E : Hid (wrap64 ((IntKind.u64.wrap k).tmod 5) = q)) (u C : Int) (hm : mayV r n = true) (hn : nextV r n q = (u, q, true)) (hu : mayV u q = true) (h1 : cmpV r n u q = -1) (h2 : cmpV u q r n = 1) (h3 : cmpV s q r n = C) (hC : C ≤ 0) :
    Calls Try.prog 4 #[.agg #[.int .i64 r, .int .i64 n], .int .i64 k, .agg #[.int .i64 s, .int .i64 m]] w fun e w' => e = .returned (.bool true) ∧ Below w.heap.size w w' := by
  have HT := Lib.hid (fun u => told11_any u)
  have HM := Lib.hid (fun x => vmay_r r n x hm)
  have HN := Lib.hid (fun x => vnext_r r n q x hn)
  have HMX := Lib.hid (fun x => vmay_r u q x hu)
  have HK1 := Lib.hid (fun x => vcmp_r r n u q x h1)
  have HK2 := Lib.hid (fun x => vcmp_r u q r n x h2)
  have HK3 := Lib.hid (fun x => vcmp_r s q r n x h3)
  clear hm hn hu h1 h2 h3
  go_enter Try.func4, Try.ntmps4
  go_wp2_with fail
  refine (HM.out _).mono ?_
  rintro e w1 ⟨rfl, B1⟩
  have D1 : Hid (BalB w1 w.heap.size r n) := ((BalB.fresh w _ _).alloc _).keep B1 (by simp; omega)
  have E1 : Hid (BalB w1 (w.heap.size + 1) s m) := (show BalB _ (w.heap.size + 1) s m by have := BalB.fresh (w.alloc (.cells #[.int .i64 r, .int .i64 n] 23)) s m; simpa using this).keep B1 (by simp)
  have C1 : Hid (Below w.heap.size w w1) := (((Below.refl _ w).alloc (Nat.le_refl _) _).alloc (by simp) _).trans (B1.mono (by simp; omega))
  obtain ⟨c0, c1, _, _⟩ := D1.out.cells
  have l0 := D1.out.lt
  have l1 := E1.out.lt
  clear B1
  go_wp2_with fail
  rw [E.out]
  refine (HN.out _).mono ?_
  rintro e w2 ⟨rfl, B2⟩
  have D2 : Hid (BalB w2 w.heap.size r n) := D1.out.keep B2 D1.out.lt
  have E2 : Hid (BalB w2 (w.heap.size + 1) s m) := E1.out.keep B2 E1.out.lt
  have C2 : Hid (Below w.heap.size w w2) := C1.out.trans (B2.mono C1.out.size)
  clear B2 c0 c1
  obtain ⟨u0, hu0⟩ : ∃ u0, u0 = w2.setCell ⟨w.heap.size + 1, 1, none⟩ (.int .i64 q) := ⟨_, rfl⟩
  have D3 : BalB u0 w.heap.size r n := by rw [hu0]; exact D2.out.kept (grownBy_setCell _ _ _ _) (by simp)
  have E3 : BalB u0 (w.heap.size + 1) s q := by
    rw [hu0]
    exact E2.out.set1 _
  have hs : u0.heap.size = w2.heap.size := by rw [hu0]; simp [World.setCell]
  have C3 : Below w.heap.size w u0 := by rw [hu0]; exact C2.out.setCell (p := ⟨w.heap.size + 1, 1, none⟩) (by show _ ≤ w.heap.size + 1; omega) _
  obtain ⟨v0, hv0⟩ : ∃ v0, v0 = u0.alloc (.cells #[.int .i64 u, .int .i64 q] 23) := ⟨_, rfl⟩
  have D4 : Hid (BalB v0 w.heap.size r n) := by rw [hv0]; exact D3.alloc _
  have E4 : Hid (BalB v0 (w.heap.size + 1) s q) := by rw [hv0]; exact E3.alloc _
  have F4 : Hid (BalB v0 w2.heap.size u q) := by rw [hv0, ← hs]; exact BalB.fresh u0 _ _
  have C4 : Hid (Below w.heap.size w v0) := by rw [hv0]; exact C3.alloc C3.size _
  obtain ⟨d0, d1, d2, d3⟩ := E2.out.cells
  have HV : Hid (v0 = (w2.setCell ⟨w.heap.size + 1, 1, none⟩ (.int .i64 q)).alloc (.cells #[.int .i64 u, .int .i64 q] 23)) := by rw [← hu0]; exact hv0
  clear hv0 hu0 D3 E3 C3 hs
  have l2 := E2.out.lt
  go_wp2_with fail
  clear d0 d1 d2 d3
  rw [← HV.out]
  refine (HT.out _).mono ?_
  rintro e v1 ⟨rfl, B⟩
  have D5 : Hid (BalB v1 w.heap.size r n) := D4.out.keep B D4.out.lt
  have E5 : Hid (BalB v1 (w.heap.size + 1) s q) := E4.out.keep B E4.out.lt
  have F5 : Hid (BalB v1 w2.heap.size u q) := F4.out.keep B F4.out.lt
  have C5 : Hid (Below w.heap.size w v1) := C4.out.trans (B.mono C4.out.size)
  clear B
  obtain ⟨c0, c1, _, _⟩ := D5.out.cells
  obtain ⟨d0, d1, _, _⟩ := E5.out.cells
  obtain ⟨e0, e1, _, _⟩ := F5.out.cells
  go_wp2_with fail
  refine (HMX.out _).mono ?_
  rintro e v2 ⟨rfl, B⟩
  have D6 : Hid (BalB v2 w.heap.size r n) := D5.out.keep B D5.out.lt
  have E6 : Hid (BalB v2 (w.heap.size + 1) s q) := E5.out.keep B E5.out.lt
  have F6 : Hid (BalB v2 w2.heap.size u q) := F5.out.keep B F5.out.lt
  have C6 : Hid (Below w.heap.size w v2) := C5.out.trans (B.mono C5.out.size)
  clear B c0 c1 d0 d1 e0 e1
  obtain ⟨c0, c1, _, _⟩ := D6.out.cells
  obtain ⟨d0, d1, _, _⟩ := E6.out.cells
  obtain ⟨e0, e1, _, _⟩ := F6.out.cells
  go_wp2_with fail
  refine (HK1.out _).mono ?_
  rintro e v3 ⟨rfl, B⟩
  have D7 : Hid (BalB v3 w.heap.size r n) := D6.out.keep B D6.out.lt
  have E7 : Hid (BalB v3 (w.heap.size + 1) s q) := E6.out.keep B E6.out.lt
  have F7 : Hid (BalB v3 w2.heap.size u q) := F6.out.keep B F6.out.lt
  have C7 : Hid (Below w.heap.size w v3) := C6.out.trans (B.mono C6.out.size)
  clear B c0 c1 d0 d1 e0 e1
  obtain ⟨c0, c1, _, _⟩ := D7.out.cells
  obtain ⟨d0, d1, _, _⟩ := E7.out.cells
  obtain ⟨e0, e1, _, _⟩ := F7.out.cells
  go_wp2_with fail
  refine (HK2.out _).mono ?_
  rintro e v4 ⟨rfl, B⟩
  have D8 : Hid (BalB v4 w.heap.size r n) := D7.out.keep B D7.out.lt
  have E8 : Hid (BalB v4 (w.heap.size + 1) s q) := E7.out.keep B E7.out.lt
  have F8 : Hid (BalB v4 w2.heap.size u q) := F7.out.keep B F7.out.lt
  have C8 : Hid (Below w.heap.size w v4) := C7.out.trans (B.mono C7.out.size)
  clear B c0 c1 d0 d1 e0 e1
  obtain ⟨c0, c1, _, _⟩ := D8.out.cells
  obtain ⟨d0, d1, _, _⟩ := E8.out.cells
  obtain ⟨e0, e1, _, _⟩ := F8.out.cells
  go_wp2_with fail
  refine (HK3.out _).mono ?_
  rintro e v5 ⟨rfl, B⟩
  have D9 : Hid (BalB v5 w.heap.size r n) := D8.out.keep B D8.out.lt
  have E9 : Hid (BalB v5 (w.heap.size + 1) s q) := E8.out.keep B E8.out.lt
  have F9 : Hid (BalB v5 w2.heap.size u q) := F8.out.keep B F8.out.lt
  have C9 : Hid (Below w.heap.size w v5) := C8.out.trans (B.mono C8.out.size)
  clear B c0 c1 d0 d1 e0 e1
  obtain ⟨c0, c1, _, _⟩ := D9.out.cells
  obtain ⟨d0, d1, _, _⟩ := E9.out.cells
  obtain ⟨e0, e1, _, _⟩ := F9.out.cells
  go_wp2
  go_returns
  exact ⟨ret_bool (by simp), C9.out⟩

set_option maxRecDepth 100000 in
set_option maxHeartbeats 4000000 in
theorem above (r n k s m q : Int) (w : World) (E : Hid (wrap64 ((IntKind.u64.wrap k).tmod 5) = q)) (u C : Int) (D : Int) (hm : mayV r n = true) (hn : nextV r n q = (u, q, true)) (hu : mayV u q = true) (h1 : cmpV r n u q = -1) (h2 : cmpV u q r n = 1) (h3 : cmpV s q r n = C) (hC : 0 < C) (h4 : cmpV s q u q = D) (hD : 0 ≤ D) :
    Calls Try.prog 4 #[.agg #[.int .i64 r, .int .i64 n], .int .i64 k, .agg #[.int .i64 s, .int .i64 m]] w fun e w' => e = .returned (.bool true) ∧ Below w.heap.size w w' := by
  have HT := Lib.hid (fun u => told11_any u)
  have HM := Lib.hid (fun x => vmay_r r n x hm)
  have HN := Lib.hid (fun x => vnext_r r n q x hn)
  have HMX := Lib.hid (fun x => vmay_r u q x hu)
  have HK1 := Lib.hid (fun x => vcmp_r r n u q x h1)
  have HK2 := Lib.hid (fun x => vcmp_r u q r n x h2)
  have HK3 := Lib.hid (fun x => vcmp_r s q r n x h3)
  have HK4 := Lib.hid (fun x => vcmp_r s q u q x h4)
  clear hm hn hu h1 h2 h3 h4
  go_enter Try.func4, Try.ntmps4
  go_wp2_with fail
  refine (HM.out _).mono ?_
  rintro e w1 ⟨rfl, B1⟩
  have D1 : Hid (BalB w1 w.heap.size r n) := ((BalB.fresh w _ _).alloc _).keep B1 (by simp; omega)
  have E1 : Hid (BalB w1 (w.heap.size + 1) s m) := (show BalB _ (w.heap.size + 1) s m by have := BalB.fresh (w.alloc (.cells #[.int .i64 r, .int .i64 n] 23)) s m; simpa using this).keep B1 (by simp)
  have C1 : Hid (Below w.heap.size w w1) := (((Below.refl _ w).alloc (Nat.le_refl _) _).alloc (by simp) _).trans (B1.mono (by simp; omega))
  obtain ⟨c0, c1, _, _⟩ := D1.out.cells
  have l0 := D1.out.lt
  have l1 := E1.out.lt
  clear B1
  go_wp2_with fail
  rw [E.out]
  refine (HN.out _).mono ?_
  rintro e w2 ⟨rfl, B2⟩
  have D2 : Hid (BalB w2 w.heap.size r n) := D1.out.keep B2 D1.out.lt
  have E2 : Hid (BalB w2 (w.heap.size + 1) s m) := E1.out.keep B2 E1.out.lt
  have C2 : Hid (Below w.heap.size w w2) := C1.out.trans (B2.mono C1.out.size)
  clear B2 c0 c1
  obtain ⟨u0, hu0⟩ : ∃ u0, u0 = w2.setCell ⟨w.heap.size + 1, 1, none⟩ (.int .i64 q) := ⟨_, rfl⟩
  have D3 : BalB u0 w.heap.size r n := by rw [hu0]; exact D2.out.kept (grownBy_setCell _ _ _ _) (by simp)
  have E3 : BalB u0 (w.heap.size + 1) s q := by
    rw [hu0]
    exact E2.out.set1 _
  have hs : u0.heap.size = w2.heap.size := by rw [hu0]; simp [World.setCell]
  have C3 : Below w.heap.size w u0 := by rw [hu0]; exact C2.out.setCell (p := ⟨w.heap.size + 1, 1, none⟩) (by show _ ≤ w.heap.size + 1; omega) _
  obtain ⟨v0, hv0⟩ : ∃ v0, v0 = u0.alloc (.cells #[.int .i64 u, .int .i64 q] 23) := ⟨_, rfl⟩
  have D4 : Hid (BalB v0 w.heap.size r n) := by rw [hv0]; exact D3.alloc _
  have E4 : Hid (BalB v0 (w.heap.size + 1) s q) := by rw [hv0]; exact E3.alloc _
  have F4 : Hid (BalB v0 w2.heap.size u q) := by rw [hv0, ← hs]; exact BalB.fresh u0 _ _
  have C4 : Hid (Below w.heap.size w v0) := by rw [hv0]; exact C3.alloc C3.size _
  obtain ⟨d0, d1, d2, d3⟩ := E2.out.cells
  have HV : Hid (v0 = (w2.setCell ⟨w.heap.size + 1, 1, none⟩ (.int .i64 q)).alloc (.cells #[.int .i64 u, .int .i64 q] 23)) := by rw [← hu0]; exact hv0
  clear hv0 hu0 D3 E3 C3 hs
  have l2 := E2.out.lt
  go_wp2_with fail
  clear d0 d1 d2 d3
  rw [← HV.out]
  refine (HT.out _).mono ?_
  rintro e v1 ⟨rfl, B⟩
  have D5 : Hid (BalB v1 w.heap.size r n) := D4.out.keep B D4.out.lt
  have E5 : Hid (BalB v1 (w.heap.size + 1) s q) := E4.out.keep B E4.out.lt
  have F5 : Hid (BalB v1 w2.heap.size u q) := F4.out.keep B F4.out.lt
  have C5 : Hid (Below w.heap.size w v1) := C4.out.trans (B.mono C4.out.size)
  clear B
  obtain ⟨c0, c1, _, _⟩ := D5.out.cells
  obtain ⟨d0, d1, _, _⟩ := E5.out.cells
  obtain ⟨e0, e1, _, _⟩ := F5.out.cells
  go_wp2_with fail
  refine (HMX.out _).mono ?_
  rintro e v2 ⟨rfl, B⟩
  have D6 : Hid (BalB v2 w.heap.size r n) := D5.out.keep B D5.out.lt
  have E6 : Hid (BalB v2 (w.heap.size + 1) s q) := E5.out.keep B E5.out.lt
  have F6 : Hid (BalB v2 w2.heap.size u q) := F5.out.keep B F5.out.lt
  have C6 : Hid (Below w.heap.size w v2) := C5.out.trans (B.mono C5.out.size)
  clear B c0 c1 d0 d1 e0 e1
  obtain ⟨c0, c1, _, _⟩ := D6.out.cells
  obtain ⟨d0, d1, _, _⟩ := E6.out.cells
  obtain ⟨e0, e1, _, _⟩ := F6.out.cells
  go_wp2_with fail
  refine (HK1.out _).mono ?_
  rintro e v3 ⟨rfl, B⟩
  have D7 : Hid (BalB v3 w.heap.size r n) := D6.out.keep B D6.out.lt
  have E7 : Hid (BalB v3 (w.heap.size + 1) s q) := E6.out.keep B E6.out.lt
  have F7 : Hid (BalB v3 w2.heap.size u q) := F6.out.keep B F6.out.lt
  have C7 : Hid (Below w.heap.size w v3) := C6.out.trans (B.mono C6.out.size)
  clear B c0 c1 d0 d1 e0 e1
  obtain ⟨c0, c1, _, _⟩ := D7.out.cells
  obtain ⟨d0, d1, _, _⟩ := E7.out.cells
  obtain ⟨e0, e1, _, _⟩ := F7.out.cells
  go_wp2_with fail
  refine (HK2.out _).mono ?_
  rintro e v4 ⟨rfl, B⟩
  have D8 : Hid (BalB v4 w.heap.size r n) := D7.out.keep B D7.out.lt
  have E8 : Hid (BalB v4 (w.heap.size + 1) s q) := E7.out.keep B E7.out.lt
  have F8 : Hid (BalB v4 w2.heap.size u q) := F7.out.keep B F7.out.lt
  have C8 : Hid (Below w.heap.size w v4) := C7.out.trans (B.mono C7.out.size)
  clear B c0 c1 d0 d1 e0 e1
  obtain ⟨c0, c1, _, _⟩ := D8.out.cells
  obtain ⟨d0, d1, _, _⟩ := E8.out.cells
  obtain ⟨e0, e1, _, _⟩ := F8.out.cells
  go_wp2_with fail
  refine (HK3.out _).mono ?_
  rintro e v5 ⟨rfl, B⟩
  have D9 : Hid (BalB v5 w.heap.size r n) := D8.out.keep B D8.out.lt
  have E9 : Hid (BalB v5 (w.heap.size + 1) s q) := E8.out.keep B E8.out.lt
  have F9 : Hid (BalB v5 w2.heap.size u q) := F8.out.keep B F8.out.lt
  have C9 : Hid (Below w.heap.size w v5) := C8.out.trans (B.mono C8.out.size)
  clear B c0 c1 d0 d1 e0 e1
  obtain ⟨c0, c1, _, _⟩ := D9.out.cells
  obtain ⟨d0, d1, _, _⟩ := E9.out.cells
  obtain ⟨e0, e1, _, _⟩ := F9.out.cells
  go_wp2_with fail
  refine (HK4.out _).mono ?_
  rintro e v6 ⟨rfl, B⟩
  have D10 : Hid (BalB v6 w.heap.size r n) := D9.out.keep B D9.out.lt
  have E10 : Hid (BalB v6 (w.heap.size + 1) s q) := E9.out.keep B E9.out.lt
  have F10 : Hid (BalB v6 w2.heap.size u q) := F9.out.keep B F9.out.lt
  have C10 : Hid (Below w.heap.size w v6) := C9.out.trans (B.mono C9.out.size)
  clear B c0 c1 d0 d1 e0 e1
  obtain ⟨c0, c1, _, _⟩ := D10.out.cells
  obtain ⟨d0, d1, _, _⟩ := E10.out.cells
  obtain ⟨e0, e1, _, _⟩ := F10.out.cells
  go_wp2
  go_returns
  exact ⟨ret_bool (by simp), C10.out⟩

set_option maxRecDepth 100000 in
set_option maxHeartbeats 4000000 in
theorem walk (r n k s m : Int) (w : World) (_ : (Lit.int .i64 r).wf = true) (_ : (Lit.int .i64 n).wf = true) (_ : (Lit.int .i64 k).wf = true) (_ : (Lit.int .i64 s).wf = true) (_ : (Lit.int .i64 m).wf = true) :
    Calls Try.prog 4 #[.agg #[.int .i64 r, .int .i64 n], .int .i64 k, .agg #[.int .i64 s, .int .i64 m]] w fun e w' => e = .returned (.bool true) ∧ Below w.heap.size w w' := by
  obtain ⟨q, hq, eq⟩ := left_of k 5 (by decide) (by decide)
  have E : Hid (wrap64 ((IntKind.u64.wrap k).tmod 5) = (q : Int)) := eq
  clear eq
  cases hm : mayV r n with
  | false => exact bad r n k s m q w E hm
  | true =>
    have hr := mayV_yes.1 hm
    by_cases hu : upV r n q ≤ 1099511627776
    · have hn := nextV_yes hm (by omega) (by omega) hu
      obtain ⟨u, h⟩ : ∃ u, u = upV r n q := ⟨_, rfl⟩
      rw [← h] at hn hu
      have hh : (n < q ∧ u = r) ∨ (q ≤ n ∧ u = r + 1) := by
        rw [h, upV]
        split <;> omega
      clear h
      have hmu : mayV u q = true := mayV_yes.2 (by omega)
      have h1 : cmpV r n u q = -1 := cmpV_lt (by omega)
      have h2 : cmpV u q r n = 1 := cmpV_gt (by omega)
      by_cases hb : s < r ∨ s = r ∧ (q : Int) ≤ n
      · obtain ⟨C, h3, hC⟩ : ∃ C, cmpV s q r n = C ∧ C ≤ 0 := by
          by_cases he : s = r ∧ (q : Int) = n
          · exact ⟨_, cmpV_eq he, by omega⟩
          · exact ⟨_, cmpV_lt (by omega), by omega⟩
        exact below r n k s m q w E u C hm hn hmu h1 h2 h3 hC
      · have h3 : cmpV s q r n = 1 := cmpV_gt (by omega)
        obtain ⟨D, h4, hD⟩ : ∃ D, cmpV s q u q = D ∧ 0 ≤ D := by
          by_cases he : s = u
          · exact ⟨_, cmpV_eq ⟨he, rfl⟩, by omega⟩
          · exact ⟨_, cmpV_gt (by omega), by omega⟩
        exact above r n k s m q w E u 1 D hm hn hmu h1 h2 h3 (by omega) h4 hD
    · have hn := nextV_full (r := r) (n := n) (k := (q : Int)) (by omega)
      have : r = 1099511627776 := by
        rw [upV] at hu
        split at hu <;> omega
      exact full r n k s m q w E hm this hn

set_option maxRecDepth 100000 in
theorem lifted (os : Os) (started : os.Started) (H : Type) (enc : TypeId × Value → H) :
    ReturnsInHanded {} Try.checked os 4 .any (Rows.ballotOrderSpec.pre6 enc Try.prog Try.f4 Rows.ballotOrderRow.domain false) (Rows.ballotOrderSpec.post enc Try.prog Try.f4 false true false false) := by
  refine returnsInHanded_of_change (C := Try.checked) own started (by kernel_rfl) Try.func4
    (ChangeSpec.witness6 (enc := enc) (C := Try.checked) false ⟨#[], #[.agg #[.int .i64 0, .int .i64 0], .int .i64 0, .agg #[.int .i64 0, .int .i64 0]], []⟩ 8 (by kernel_rfl) (by kernel_rfl) (by kernel_rfl) (by kernel_rfl)) ?_
  intro W base args ds gs before hval0 hW hcnd _
  have hval : ∀ (j : Nat) t v, Try.f4.params[j]? = some t → args[j]? = some v → Value.okWide Try.prog W .any base t v := hval0
  have hW' := hW
  obtain ⟨p, q, hA0, hV, rfl, hfz, hnd⟩ := hW
  have hA : DataW.TrodAll enc Try.prog W 0 (fun _ => true) true Try.f4.params.toList args.toList ds p := hA0
  rw [Try.params4] at hA hval
  obtain ⟨v0, vs0, d0, ds0, p0, q0, hargs, rfl, rfl, h0, r0⟩ := trodAll_cons hA
  obtain ⟨v1, vs1, d1, ds1, p1, q1, rfl, rfl, rfl, h1, r1⟩ := trodAll_cons r0
  obtain ⟨v2, vs2, d2, ds2, p2, q2, rfl, rfl, rfl, h2, r2⟩ := trodAll_cons r1
  obtain ⟨rfl, rfl, rfl⟩ := trodAll_nil r2
  obtain rfl : args = #[v0, v1, v2] := by cases args; simp_all
  obtain ⟨rfl, rfl⟩ := trodVars_none hV
  have k0 := h0
  have lt0 : ∀ x ∈ p0, x.block < W.heap.size := by obtain ⟨m, hm⟩ := k0; exact DataW.trod_lt m _ _ _ hm
  obtain ⟨xa0, xb0, rfl, wa0, wb0⟩ := ballot_open (hval 0 23 v0 rfl rfl) h0
  obtain ⟨a1, rfl, rfl, rfl, w1⟩ := open_int Try.underlying3 (hval 1 3 v1 rfl rfl) h1
  have k2 := h2
  have lt2 : ∀ x ∈ p2, x.block < W.heap.size := by obtain ⟨m, hm⟩ := k2; exact DataW.trod_lt m _ _ _ hm
  obtain ⟨xa2, xb2, rfl, wa2, wb2⟩ := ballot_open (hval 2 23 v2 rfl rfl) h2
  clear hA0 hval0
  refine (walk xa0 xb0 a1 xa2 xb2 W wa0 wb0 w1 wa2 wb2).mono fun e W' ⟨he, bel⟩ => ?_
  subst he
  exact ⟨_, rfl, _, _, _, [], _, [], hW', trodAll_mk1 (shut_bool Try.underlying4 _), (trodAll_cons_mk (Below.trod laidOut (by kernel_rfl) (of_decide_eq_true (by kernel_rfl)) k0 bel lt0) (trodAll_cons_mk (shut_int Try.underlying3 w1) (trodAll_cons_mk (Below.trod laidOut (by kernel_rfl) (of_decide_eq_true (by kernel_rfl)) k2 bel lt2) trodAll_mk0))), rfl, bel.frame _, fun h => by cases h⟩

theorem over : Rows.ballotOrderRow.holds Try.pinned (OpenSpec.ofChange Rows.ballotOrderSpec) :=
  OpenClaim.holds_of_wide 4 Try.f4 rfl rfl rfl rfl rfl rfl rfl ⟨rfl, rfl, rfl, rfl, rfl⟩ rfl rfl rfl rfl rfl (by kernel_rfl) Try.func4 (by kernel_rfl)
    (of_decide_eq_true (by kernel_rfl)) (by unfold Func.isWrapper; first | (rw [if_pos (by decide +kernel)]; kernel_rfl) | (rw [if_neg (by decide +kernel)]; exact ⟨rfl, rfl⟩))
    (fun os started H enc _ => lifted os started H enc)
end Go.Proofs.Ytejnphfjlphpiaa.BallotOrder

namespace Go.Proofs.Ytejnphfjlphpiaa
theorem ballotOrder_holds : Rows.BallotOrderSaid := BallotOrder.over
#print axioms ballotOrder_holds
end Go.Proofs.Ytejnphfjlphpiaa
