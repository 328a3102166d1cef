/-
  THE REFERENCE's Do, of versions at most a million: whole.
-/
import Derived.Test.YtenjjgghoacboaaChartI
namespace Go.Proofs.Ytenjjgghoacboaa
open Go.RowKit

theorem vers_low {W : World} {B R : Nat} {v : Value} {L : List VerV} (h : Vers W B v L) (hR : B ≤ R) (hB : B ≤ W.heap.size) (c r : Int) (d : ByteArray) (u : Value) : Vers (stored W R c r d u) (stored W R c r d u).heap.size v L :=
  (h.keep (stored_below (Below.refl B W) hR _ _ _ _)).mono (by rw [stored_size]; exact hB)

set_option maxRecDepth 100000 in
set_option maxHeartbeats 1000000 in
theorem rn_o2 (ao : Option Addr) (cap : Nat) (cl sq kd id mt : Int) (dt : ByteArray) (quota : Int) (w : World) (hk : kd ≠ 1) 
    (HV : Hid (∀ u, Below w.heap.size w u → Vers u w.heap.size (.slice ao 0 cap) []))
    (HW : Hid (∀ u, Calls Try.prog 83 #[.agg #[.int .i64 cl, .int .i64 sq, .int .i64 kd, .int .i64 id, .int .i64 mt, .string dt]] u fun e w' => e = .returned (.bool true) ∧ Below u.heap.size u w')) :
    Calls Try.prog 113 #[.slice ao 0 cap, .agg #[.int .i64 cl, .int .i64 sq, .int .i64 kd, .int .i64 id, .int .i64 mt, .string dt], .int .i64 quota] w (Does [] [] 2 0 ⟨#[]⟩ w) := by
  have k0 : (kd == 1) = false := beq_eq_false_iff_ne.2 hk
  have k1 : (kd != 1) = true := bne_iff_ne.2 hk
  clear hk
  go_enter Try.func113, Try.ntmps113
  go_wp2_with fail
  refine (HW.out _).mono ?_
  rintro e w1 ⟨rfl, B1⟩
  have C1 : Hid (Below w.heap.size w w1) := (((Below.refl _ w).alloc (Nat.le_refl _) _).alloc (by simp) _).trans (B1.mono (by simp; omega))
  have R1 : Hid (RepAt w1 (w.heap.size + 1) 0 0 ⟨#[]⟩ (.slice none 0 0)) := RepAt.keep (RepAt.new1 w _ 0 0 ⟨#[]⟩ (.slice none 0 0)) B1 (by simp)
  have D1 : Hid (ReqB w1 w.heap.size cl sq kd id mt dt) := ((ReqB.fresh w cl sq kd id mt dt 34).keep ((Below.refl (w.heap.size + 1) _).alloc (by simp) _) (by omega)).keep B1 (by simp; omega)
  obtain ⟨c0, c1, c2, c3, c4, c5⟩ := D1.out.cells
  obtain ⟨⟨d0, d1, d2, d3⟩, ⟨z0, z1, z2, z3⟩⟩ := R1.out.cells
  have HE := Lib.hid (rep_stored (c' := 2) (n' := 0) (d' := ⟨#[]⟩) R1.out (.slice none 0 0)).cells.1
  have HVV := Lib.hid (vers_low (R := w.heap.size + 1) (HV.out _ C1.out) (Nat.le_succ _) C1.out.size 2 0 ⟨#[]⟩ (.slice none 0 0))
  have HBB := Lib.hid (stored_below C1.out (Nat.le_succ w.heap.size) 2 0 ⟨#[]⟩ (.slice none 0 0))
  clear B1 D1
  go_wp2
  obtain ⟨f0, f1, f2, f3⟩ := HE.out
  unfold stored at f0 f1 f2 f3
  refine bodyPost_ret (v := .tuple #[.slice ao 0 cap, .agg #[.int .i64 2, .int .i64 0, .string ⟨#[]⟩, .slice none 0 0]]) (by simp [results, Try.results113, go_sem, f0, f1, f2, f3]) rfl ⟨ao, cap, none, 0, by rfl, ?_⟩
  
  exact ⟨HVV.out, Ints.none _ _, HBB.out⟩

set_option maxRecDepth 100000 in
set_option maxHeartbeats 1000000 in
theorem rn_o3 (b off n cap : Nat) (L : List VerV) (cl sq kd id mt : Int) (dt : ByteArray) (quota : Int) (w : World) (hk : kd ≠ 1)  (hn : L.length = n) (h1 : 1 ≤ n) (hn6 : n ≤ 1000000)
    (HV : Hid (∀ u, Below w.heap.size w u → Vers u w.heap.size (.slice (some ⟨b, off, none⟩) n cap) L))
    (HG : Hid (∀ u, Below w.heap.size w u → u.cell? ⟨b, off + (n - 1) * 2, none⟩ = some (.bool true)))
    (HW : Hid (∀ u, Calls Try.prog 83 #[.agg #[.int .i64 cl, .int .i64 sq, .int .i64 kd, .int .i64 id, .int .i64 mt, .string dt]] u fun e w' => e = .returned (.bool true) ∧ Below u.heap.size u w')) :
    Calls Try.prog 113 #[.slice (some ⟨b, off, none⟩) n cap, .agg #[.int .i64 cl, .int .i64 sq, .int .i64 kd, .int .i64 id, .int .i64 mt, .string dt], .int .i64 quota] w (Does L [] 3 (n : Int) ⟨#[]⟩ w) := by
  have HN := Lib.hid hn
  have p0 : (0 : Int) < (n : Int) := by omega
  have e0 : ((n : Int) == 0) = false := by rw [beq_eq_false_iff_ne]; omega
  have e1 : ((n : Int) != 0) = true := by rw [bne_iff_ne]; omega
  have g0 := HG.out _ (show Below w.heap.size w ((w.alloc (.cells #[.int .i64 cl, .int .i64 sq, .int .i64 kd, .int .i64 id, .int .i64 mt, .string dt] 34)).alloc (.cells #[.int .i64 0, .int .i64 0, .string ⟨#[]⟩, .slice none 0 0] 48)) by go_grown)
  clear hn
  have k0 : (kd == 1) = false := beq_eq_false_iff_ne.2 hk
  have k1 : (kd != 1) = true := bne_iff_ne.2 hk
  clear hk
  go_enter Try.func113, Try.ntmps113
  go_wp2_with fail
  refine (HW.out _).mono ?_
  rintro e w1 ⟨rfl, B1⟩
  have C1 : Hid (Below w.heap.size w w1) := (((Below.refl _ w).alloc (Nat.le_refl _) _).alloc (by simp) _).trans (B1.mono (by simp; omega))
  have R1 : Hid (RepAt w1 (w.heap.size + 1) 0 0 ⟨#[]⟩ (.slice none 0 0)) := RepAt.keep (RepAt.new1 w _ 0 0 ⟨#[]⟩ (.slice none 0 0)) B1 (by simp)
  have D1 : Hid (ReqB w1 w.heap.size cl sq kd id mt dt) := ((ReqB.fresh w cl sq kd id mt dt 34).keep ((Below.refl (w.heap.size + 1) _).alloc (by simp) _) (by omega)).keep B1 (by simp; omega)
  obtain ⟨c0, c1, c2, c3, c4, c5⟩ := D1.out.cells
  obtain ⟨⟨d0, d1, d2, d3⟩, ⟨z0, z1, z2, z3⟩⟩ := R1.out.cells
  have HE := Lib.hid (rep_stored (c' := 3) (n' := (n : Int)) (d' := ⟨#[]⟩) R1.out (.slice none 0 0)).cells.1
  have HVV := Lib.hid (vers_low (R := w.heap.size + 1) (HV.out _ C1.out) (Nat.le_succ _) C1.out.size 3 (n : Int) ⟨#[]⟩ (.slice none 0 0))
  have HBB := Lib.hid (stored_below C1.out (Nat.le_succ w.heap.size) 3 (n : Int) ⟨#[]⟩ (.slice none 0 0))
  clear B1 D1 g0
  go_wp2
  obtain ⟨f0, f1, f2, f3⟩ := HE.out
  unfold stored at f0 f1 f2 f3
  refine bodyPost_ret (v := .tuple #[.slice (some ⟨b, off, none⟩) n cap, .agg #[.int .i64 3, .int .i64 (n : Int), .string ⟨#[]⟩, .slice none 0 0]]) (by simp [results, Try.results113, go_sem, f0, f1, f2, f3]) rfl ⟨_, cap, none, 0, by rw [HN.out]; rfl, ?_⟩
  rw [HN.out]
  exact ⟨HVV.out, Ints.none _ _, HBB.out⟩

set_option maxRecDepth 100000 in
set_option maxHeartbeats 1000000 in
theorem rn_o4 (b off n cap : Nat) (L : List VerV) (cl sq id mt : Int) (dt : ByteArray) (quota : Int) (w : World)  (hn : L.length = n) (h1 : 1 ≤ n) (hn6 : n ≤ 1000000)
    (HV : Hid (∀ u, Below w.heap.size w u → Vers u w.heap.size (.slice (some ⟨b, off, none⟩) n cap) L))
    (HG : Hid (∀ u, Below w.heap.size w u → u.cell? ⟨b, off + (n - 1) * 2, none⟩ = some (.bool false)))
    (HW : Hid (∀ u, Calls Try.prog 83 #[.agg #[.int .i64 cl, .int .i64 sq, .int .i64 1, .int .i64 id, .int .i64 mt, .string dt]] u fun e w' => e = .returned (.bool true) ∧ Below u.heap.size u w')) :
    Calls Try.prog 113 #[.slice (some ⟨b, off, none⟩) n cap, .agg #[.int .i64 cl, .int .i64 sq, .int .i64 1, .int .i64 id, .int .i64 mt, .string dt], .int .i64 quota] w (Does L [] 4 (n : Int) ⟨#[]⟩ w) := by
  have HN := Lib.hid hn
  have p0 : (0 : Int) < (n : Int) := by omega
  have e0 : ((n : Int) == 0) = false := by rw [beq_eq_false_iff_ne]; omega
  have e1 : ((n : Int) != 0) = true := by rw [bne_iff_ne]; omega
  have g0 := HG.out _ (show Below w.heap.size w ((w.alloc (.cells #[.int .i64 cl, .int .i64 sq, .int .i64 1, .int .i64 id, .int .i64 mt, .string dt] 34)).alloc (.cells #[.int .i64 0, .int .i64 0, .string ⟨#[]⟩, .slice none 0 0] 48)) by go_grown)
  clear hn
  go_enter Try.func113, Try.ntmps113
  go_wp2_with fail
  refine (HW.out _).mono ?_
  rintro e w1 ⟨rfl, B1⟩
  have C1 : Hid (Below w.heap.size w w1) := (((Below.refl _ w).alloc (Nat.le_refl _) _).alloc (by simp) _).trans (B1.mono (by simp; omega))
  have R1 : Hid (RepAt w1 (w.heap.size + 1) 0 0 ⟨#[]⟩ (.slice none 0 0)) := RepAt.keep (RepAt.new1 w _ 0 0 ⟨#[]⟩ (.slice none 0 0)) B1 (by simp)
  have D1 : Hid (ReqB w1 w.heap.size cl sq 1 id mt dt) := ((ReqB.fresh w cl sq 1 id mt dt 34).keep ((Below.refl (w.heap.size + 1) _).alloc (by simp) _) (by omega)).keep B1 (by simp; omega)
  obtain ⟨c0, c1, c2, c3, c4, c5⟩ := D1.out.cells
  obtain ⟨⟨d0, d1, d2, d3⟩, ⟨z0, z1, z2, z3⟩⟩ := R1.out.cells
  have HE := Lib.hid (rep_stored (c' := 4) (n' := (n : Int)) (d' := ⟨#[]⟩) R1.out (.slice none 0 0)).cells.1
  have HVV := Lib.hid (vers_low (R := w.heap.size + 1) (HV.out _ C1.out) (Nat.le_succ _) C1.out.size 4 (n : Int) ⟨#[]⟩ (.slice none 0 0))
  have HBB := Lib.hid (stored_below C1.out (Nat.le_succ w.heap.size) 4 (n : Int) ⟨#[]⟩ (.slice none 0 0))
  clear B1 D1 g0
  go_wp2
  obtain ⟨f0, f1, f2, f3⟩ := HE.out
  unfold stored at f0 f1 f2 f3
  refine bodyPost_ret (v := .tuple #[.slice (some ⟨b, off, none⟩) n cap, .agg #[.int .i64 4, .int .i64 (n : Int), .string ⟨#[]⟩, .slice none 0 0]]) (by simp [results, Try.results113, go_sem, f0, f1, f2, f3]) rfl ⟨_, cap, none, 0, by rw [HN.out]; rfl, ?_⟩
  rw [HN.out]
  exact ⟨HVV.out, Ints.none _ _, HBB.out⟩

set_option maxRecDepth 100000 in
set_option maxHeartbeats 1000000 in
theorem rn_a5 (ao : Option Addr) (cap : Nat) (cl sq id mt : Int) (dt : ByteArray) (quota : Int) (w : World) (hm : mt ≠ 0)
    (HV : Hid (∀ u, Below w.heap.size w u → Vers u w.heap.size (.slice ao 0 cap) []))
    (HW : Hid (∀ u, Calls Try.prog 83 #[.agg #[.int .i64 cl, .int .i64 sq, .int .i64 1, .int .i64 id, .int .i64 mt, .string dt]] u fun e w' => e = .returned (.bool true) ∧ Below u.heap.size u w')) :
    Calls Try.prog 113 #[.slice ao 0 cap, .agg #[.int .i64 cl, .int .i64 sq, .int .i64 1, .int .i64 id, .int .i64 mt, .string dt], .int .i64 quota] w (Does [] [] 5 0 ⟨#[]⟩ w) := by
  have m0 : (mt == 0) = false := beq_eq_false_iff_ne.2 hm
  have m1 : (mt != 0) = true := bne_iff_ne.2 hm
  clear hm
  go_enter Try.func113, Try.ntmps113
  go_wp2_with fail
  refine (HW.out _).mono ?_
  rintro e w1 ⟨rfl, B1⟩
  have C1 : Hid (Below w.heap.size w w1) := (((Below.refl _ w).alloc (Nat.le_refl _) _).alloc (by simp) _).trans (B1.mono (by simp; omega))
  have R1 : Hid (RepAt w1 (w.heap.size + 1) 0 0 ⟨#[]⟩ (.slice none 0 0)) := RepAt.keep (RepAt.new1 w _ 0 0 ⟨#[]⟩ (.slice none 0 0)) B1 (by simp)
  have D1 : Hid (ReqB w1 w.heap.size cl sq 1 id mt dt) := ((ReqB.fresh w cl sq 1 id mt dt 34).keep ((Below.refl (w.heap.size + 1) _).alloc (by simp) _) (by omega)).keep B1 (by simp; omega)
  obtain ⟨c0, c1, c2, c3, c4, c5⟩ := D1.out.cells
  obtain ⟨⟨d0, d1, d2, d3⟩, ⟨z0, z1, z2, z3⟩⟩ := R1.out.cells
  have HE := Lib.hid (rep_stored (c' := 5) (n' := 0) (d' := ⟨#[]⟩) R1.out (.slice none 0 0)).cells.1
  have HVV := Lib.hid (vers_low (R := w.heap.size + 1) (HV.out _ C1.out) (Nat.le_succ _) C1.out.size 5 0 ⟨#[]⟩ (.slice none 0 0))
  have HBB := Lib.hid (stored_below C1.out (Nat.le_succ w.heap.size) 5 0 ⟨#[]⟩ (.slice none 0 0))
  clear B1 D1
  go_wp2
  obtain ⟨f0, f1, f2, f3⟩ := HE.out
  unfold stored at f0 f1 f2 f3
  refine bodyPost_ret (v := .tuple #[.slice ao 0 cap, .agg #[.int .i64 5, .int .i64 0, .string ⟨#[]⟩, .slice none 0 0]]) (by simp [results, Try.results113, go_sem, f0, f1, f2, f3]) rfl ⟨ao, cap, none, 0, by rfl, ?_⟩
  
  exact ⟨HVV.out, Ints.none _ _, HBB.out⟩

set_option maxRecDepth 100000 in
set_option maxHeartbeats 1000000 in
theorem rn_a6 (ao : Option Addr) (cap : Nat) (cl sq id : Int) (dt : ByteArray) (quota : Int) (w : World) (hq : quota ≤ 0) 
    (HV : Hid (∀ u, Below w.heap.size w u → Vers u w.heap.size (.slice ao 0 cap) []))
    (HW : Hid (∀ u, Calls Try.prog 83 #[.agg #[.int .i64 cl, .int .i64 sq, .int .i64 1, .int .i64 id, .int .i64 0, .string dt]] u fun e w' => e = .returned (.bool true) ∧ Below u.heap.size u w')) :
    Calls Try.prog 113 #[.slice ao 0 cap, .agg #[.int .i64 cl, .int .i64 sq, .int .i64 1, .int .i64 id, .int .i64 0, .string dt], .int .i64 quota] w (Does [] [] 6 0 ⟨#[]⟩ w) := by
  go_enter Try.func113, Try.ntmps113
  go_wp2_with fail
  refine (HW.out _).mono ?_
  rintro e w1 ⟨rfl, B1⟩
  have C1 : Hid (Below w.heap.size w w1) := (((Below.refl _ w).alloc (Nat.le_refl _) _).alloc (by simp) _).trans (B1.mono (by simp; omega))
  have R1 : Hid (RepAt w1 (w.heap.size + 1) 0 0 ⟨#[]⟩ (.slice none 0 0)) := RepAt.keep (RepAt.new1 w _ 0 0 ⟨#[]⟩ (.slice none 0 0)) B1 (by simp)
  have D1 : Hid (ReqB w1 w.heap.size cl sq 1 id 0 dt) := ((ReqB.fresh w cl sq 1 id 0 dt 34).keep ((Below.refl (w.heap.size + 1) _).alloc (by simp) _) (by omega)).keep B1 (by simp; omega)
  obtain ⟨c0, c1, c2, c3, c4, c5⟩ := D1.out.cells
  obtain ⟨⟨d0, d1, d2, d3⟩, ⟨z0, z1, z2, z3⟩⟩ := R1.out.cells
  have HE := Lib.hid (rep_stored (c' := 6) (n' := 0) (d' := ⟨#[]⟩) R1.out (.slice none 0 0)).cells.1
  have HVV := Lib.hid (vers_low (R := w.heap.size + 1) (HV.out _ C1.out) (Nat.le_succ _) C1.out.size 6 0 ⟨#[]⟩ (.slice none 0 0))
  have HBB := Lib.hid (stored_below C1.out (Nat.le_succ w.heap.size) 6 0 ⟨#[]⟩ (.slice none 0 0))
  clear B1 D1
  go_wp2
  obtain ⟨f0, f1, f2, f3⟩ := HE.out
  unfold stored at f0 f1 f2 f3
  refine bodyPost_ret (v := .tuple #[.slice ao 0 cap, .agg #[.int .i64 6, .int .i64 0, .string ⟨#[]⟩, .slice none 0 0]]) (by simp [results, Try.results113, go_sem, f0, f1, f2, f3]) rfl ⟨ao, cap, none, 0, by rfl, ?_⟩
  
  exact ⟨HVV.out, Ints.none _ _, HBB.out⟩

set_option maxRecDepth 100000 in
set_option maxHeartbeats 1000000 in
theorem rn_b5 (b off n cap : Nat) (L : List VerV) (cl sq id mt : Int) (dt : ByteArray) (quota : Int) (w : World) (hm : mt ≠ 0) (hm2 : mt ≠ n) (hn : L.length = n) (h1 : 1 ≤ n) (hn6 : n ≤ 1000000)
    (HV : Hid (∀ u, Below w.heap.size w u → Vers u w.heap.size (.slice (some ⟨b, off, none⟩) n cap) L))
    (HG : Hid (∀ u, Below w.heap.size w u → u.cell? ⟨b, off + (n - 1) * 2, none⟩ = some (.bool true)))
    (HW : Hid (∀ u, Calls Try.prog 83 #[.agg #[.int .i64 cl, .int .i64 sq, .int .i64 1, .int .i64 id, .int .i64 mt, .string dt]] u fun e w' => e = .returned (.bool true) ∧ Below u.heap.size u w')) :
    Calls Try.prog 113 #[.slice (some ⟨b, off, none⟩) n cap, .agg #[.int .i64 cl, .int .i64 sq, .int .i64 1, .int .i64 id, .int .i64 mt, .string dt], .int .i64 quota] w (Does L [] 5 (n : Int) ⟨#[]⟩ w) := by
  have HN := Lib.hid hn
  have p0 : (0 : Int) < (n : Int) := by omega
  have e0 : ((n : Int) == 0) = false := by rw [beq_eq_false_iff_ne]; omega
  have e1 : ((n : Int) != 0) = true := by rw [bne_iff_ne]; omega
  have g0 := HG.out _ (show Below w.heap.size w ((w.alloc (.cells #[.int .i64 cl, .int .i64 sq, .int .i64 1, .int .i64 id, .int .i64 mt, .string dt] 34)).alloc (.cells #[.int .i64 0, .int .i64 0, .string ⟨#[]⟩, .slice none 0 0] 48)) by go_grown)
  clear hn
  have m0 : (mt == 0) = false := beq_eq_false_iff_ne.2 hm
  have m1 : (mt != 0) = true := bne_iff_ne.2 hm
  clear hm
  have m2 : (mt == (n : Int)) = false := beq_eq_false_iff_ne.2 hm2
  have m3 : (mt != (n : Int)) = true := bne_iff_ne.2 hm2
  clear hm2
  go_enter Try.func113, Try.ntmps113
  go_wp2_with fail
  refine (HW.out _).mono ?_
  rintro e w1 ⟨rfl, B1⟩
  have C1 : Hid (Below w.heap.size w w1) := (((Below.refl _ w).alloc (Nat.le_refl _) _).alloc (by simp) _).trans (B1.mono (by simp; omega))
  have R1 : Hid (RepAt w1 (w.heap.size + 1) 0 0 ⟨#[]⟩ (.slice none 0 0)) := RepAt.keep (RepAt.new1 w _ 0 0 ⟨#[]⟩ (.slice none 0 0)) B1 (by simp)
  have D1 : Hid (ReqB w1 w.heap.size cl sq 1 id mt dt) := ((ReqB.fresh w cl sq 1 id mt dt 34).keep ((Below.refl (w.heap.size + 1) _).alloc (by simp) _) (by omega)).keep B1 (by simp; omega)
  obtain ⟨c0, c1, c2, c3, c4, c5⟩ := D1.out.cells
  obtain ⟨⟨d0, d1, d2, d3⟩, ⟨z0, z1, z2, z3⟩⟩ := R1.out.cells
  have HE := Lib.hid (rep_stored (c' := 5) (n' := (n : Int)) (d' := ⟨#[]⟩) R1.out (.slice none 0 0)).cells.1
  have HVV := Lib.hid (vers_low (R := w.heap.size + 1) (HV.out _ C1.out) (Nat.le_succ _) C1.out.size 5 (n : Int) ⟨#[]⟩ (.slice none 0 0))
  have HBB := Lib.hid (stored_below C1.out (Nat.le_succ w.heap.size) 5 (n : Int) ⟨#[]⟩ (.slice none 0 0))
  clear B1 D1 g0
  go_wp2
  obtain ⟨f0, f1, f2, f3⟩ := HE.out
  unfold stored at f0 f1 f2 f3
  refine bodyPost_ret (v := .tuple #[.slice (some ⟨b, off, none⟩) n cap, .agg #[.int .i64 5, .int .i64 (n : Int), .string ⟨#[]⟩, .slice none 0 0]]) (by simp [results, Try.results113, go_sem, f0, f1, f2, f3]) rfl ⟨_, cap, none, 0, by rw [HN.out]; rfl, ?_⟩
  rw [HN.out]
  exact ⟨HVV.out, Ints.none _ _, HBB.out⟩

set_option maxRecDepth 100000 in
set_option maxHeartbeats 1000000 in
theorem rn_b6 (b off n cap : Nat) (L : List VerV) (cl sq id : Int) (dt : ByteArray) (quota : Int) (w : World) (hq : quota ≤ (n : Int))  (hn : L.length = n) (h1 : 1 ≤ n) (hn6 : n ≤ 1000000)
    (HV : Hid (∀ u, Below w.heap.size w u → Vers u w.heap.size (.slice (some ⟨b, off, none⟩) n cap) L))
    (HG : Hid (∀ u, Below w.heap.size w u → u.cell? ⟨b, off + (n - 1) * 2, none⟩ = some (.bool true)))
    (HW : Hid (∀ u, Calls Try.prog 83 #[.agg #[.int .i64 cl, .int .i64 sq, .int .i64 1, .int .i64 id, .int .i64 0, .string dt]] u fun e w' => e = .returned (.bool true) ∧ Below u.heap.size u w')) :
    Calls Try.prog 113 #[.slice (some ⟨b, off, none⟩) n cap, .agg #[.int .i64 cl, .int .i64 sq, .int .i64 1, .int .i64 id, .int .i64 0, .string dt], .int .i64 quota] w (Does L [] 6 (n : Int) ⟨#[]⟩ w) := by
  have HN := Lib.hid hn
  have p0 : (0 : Int) < (n : Int) := by omega
  have e0 : ((n : Int) == 0) = false := by rw [beq_eq_false_iff_ne]; omega
  have e1 : ((n : Int) != 0) = true := by rw [bne_iff_ne]; omega
  have g0 := HG.out _ (show Below w.heap.size w ((w.alloc (.cells #[.int .i64 cl, .int .i64 sq, .int .i64 1, .int .i64 id, .int .i64 0, .string dt] 34)).alloc (.cells #[.int .i64 0, .int .i64 0, .string ⟨#[]⟩, .slice none 0 0] 48)) by go_grown)
  clear hn
  go_enter Try.func113, Try.ntmps113
  go_wp2_with fail
  refine (HW.out _).mono ?_
  rintro e w1 ⟨rfl, B1⟩
  have C1 : Hid (Below w.heap.size w w1) := (((Below.refl _ w).alloc (Nat.le_refl _) _).alloc (by simp) _).trans (B1.mono (by simp; omega))
  have R1 : Hid (RepAt w1 (w.heap.size + 1) 0 0 ⟨#[]⟩ (.slice none 0 0)) := RepAt.keep (RepAt.new1 w _ 0 0 ⟨#[]⟩ (.slice none 0 0)) B1 (by simp)
  have D1 : Hid (ReqB w1 w.heap.size cl sq 1 id 0 dt) := ((ReqB.fresh w cl sq 1 id 0 dt 34).keep ((Below.refl (w.heap.size + 1) _).alloc (by simp) _) (by omega)).keep B1 (by simp; omega)
  obtain ⟨c0, c1, c2, c3, c4, c5⟩ := D1.out.cells
  obtain ⟨⟨d0, d1, d2, d3⟩, ⟨z0, z1, z2, z3⟩⟩ := R1.out.cells
  have HE := Lib.hid (rep_stored (c' := 6) (n' := (n : Int)) (d' := ⟨#[]⟩) R1.out (.slice none 0 0)).cells.1
  have HVV := Lib.hid (vers_low (R := w.heap.size + 1) (HV.out _ C1.out) (Nat.le_succ _) C1.out.size 6 (n : Int) ⟨#[]⟩ (.slice none 0 0))
  have HBB := Lib.hid (stored_below C1.out (Nat.le_succ w.heap.size) 6 (n : Int) ⟨#[]⟩ (.slice none 0 0))
  clear B1 D1 g0
  go_wp2
  obtain ⟨f0, f1, f2, f3⟩ := HE.out
  unfold stored at f0 f1 f2 f3
  refine bodyPost_ret (v := .tuple #[.slice (some ⟨b, off, none⟩) n cap, .agg #[.int .i64 6, .int .i64 (n : Int), .string ⟨#[]⟩, .slice none 0 0]]) (by simp [results, Try.results113, go_sem, f0, f1, f2, f3]) rfl ⟨_, cap, none, 0, by rw [HN.out]; rfl, ?_⟩
  rw [HN.out]
  exact ⟨HVV.out, Ints.none _ _, HBB.out⟩

set_option maxRecDepth 100000 in
set_option maxHeartbeats 1000000 in
theorem rn_b7 (b off n cap : Nat) (L : List VerV) (cl sq id : Int) (dt : ByteArray) (quota : Int) (w : World) (hq : quota ≤ (n : Int))  (hn : L.length = n) (h1 : 1 ≤ n) (hn6 : n ≤ 1000000)
    (HV : Hid (∀ u, Below w.heap.size w u → Vers u w.heap.size (.slice (some ⟨b, off, none⟩) n cap) L))
    (HG : Hid (∀ u, Below w.heap.size w u → u.cell? ⟨b, off + (n - 1) * 2, none⟩ = some (.bool true)))
    (HW : Hid (∀ u, Calls Try.prog 83 #[.agg #[.int .i64 cl, .int .i64 sq, .int .i64 1, .int .i64 id, .int .i64 (n : Int), .string dt]] u fun e w' => e = .returned (.bool true) ∧ Below u.heap.size u w')) :
    Calls Try.prog 113 #[.slice (some ⟨b, off, none⟩) n cap, .agg #[.int .i64 cl, .int .i64 sq, .int .i64 1, .int .i64 id, .int .i64 (n : Int), .string dt], .int .i64 quota] w (Does L [] 6 (n : Int) ⟨#[]⟩ w) := by
  have HN := Lib.hid hn
  have p0 : (0 : Int) < (n : Int) := by omega
  have e0 : ((n : Int) == 0) = false := by rw [beq_eq_false_iff_ne]; omega
  have e1 : ((n : Int) != 0) = true := by rw [bne_iff_ne]; omega
  have g0 := HG.out _ (show Below w.heap.size w ((w.alloc (.cells #[.int .i64 cl, .int .i64 sq, .int .i64 1, .int .i64 id, .int .i64 (n : Int), .string dt] 34)).alloc (.cells #[.int .i64 0, .int .i64 0, .string ⟨#[]⟩, .slice none 0 0] 48)) by go_grown)
  clear hn
  go_enter Try.func113, Try.ntmps113
  go_wp2_with fail
  refine (HW.out _).mono ?_
  rintro e w1 ⟨rfl, B1⟩
  have C1 : Hid (Below w.heap.size w w1) := (((Below.refl _ w).alloc (Nat.le_refl _) _).alloc (by simp) _).trans (B1.mono (by simp; omega))
  have R1 : Hid (RepAt w1 (w.heap.size + 1) 0 0 ⟨#[]⟩ (.slice none 0 0)) := RepAt.keep (RepAt.new1 w _ 0 0 ⟨#[]⟩ (.slice none 0 0)) B1 (by simp)
  have D1 : Hid (ReqB w1 w.heap.size cl sq 1 id (n : Int) dt) := ((ReqB.fresh w cl sq 1 id (n : Int) dt 34).keep ((Below.refl (w.heap.size + 1) _).alloc (by simp) _) (by omega)).keep B1 (by simp; omega)
  obtain ⟨c0, c1, c2, c3, c4, c5⟩ := D1.out.cells
  obtain ⟨⟨d0, d1, d2, d3⟩, ⟨z0, z1, z2, z3⟩⟩ := R1.out.cells
  have HE := Lib.hid (rep_stored (c' := 6) (n' := (n : Int)) (d' := ⟨#[]⟩) R1.out (.slice none 0 0)).cells.1
  have HVV := Lib.hid (vers_low (R := w.heap.size + 1) (HV.out _ C1.out) (Nat.le_succ _) C1.out.size 6 (n : Int) ⟨#[]⟩ (.slice none 0 0))
  have HBB := Lib.hid (stored_below C1.out (Nat.le_succ w.heap.size) 6 (n : Int) ⟨#[]⟩ (.slice none 0 0))
  clear B1 D1 g0
  go_wp2
  obtain ⟨f0, f1, f2, f3⟩ := HE.out
  unfold stored at f0 f1 f2 f3
  refine bodyPost_ret (v := .tuple #[.slice (some ⟨b, off, none⟩) n cap, .agg #[.int .i64 6, .int .i64 (n : Int), .string ⟨#[]⟩, .slice none 0 0]]) (by simp [results, Try.results113, go_sem, f0, f1, f2, f3]) rfl ⟨_, cap, none, 0, by rw [HN.out]; rfl, ?_⟩
  rw [HN.out]
  exact ⟨HVV.out, Ints.none _ _, HBB.out⟩

set_option maxRecDepth 100000 in
set_option maxHeartbeats 1000000 in
theorem rn_c5 (b off n cap : Nat) (L : List VerV) (cl sq kd id mt : Int) (dt : ByteArray) (quota : Int) (w : World) (hk : kd ≠ 1) (hm : mt ≠ 0) (hm2 : mt ≠ n) (hn : L.length = n) (h1 : 1 ≤ n) (hn6 : n ≤ 1000000)
    (HV : Hid (∀ u, Below w.heap.size w u → Vers u w.heap.size (.slice (some ⟨b, off, none⟩) n cap) L))
    (HG : Hid (∀ u, Below w.heap.size w u → u.cell? ⟨b, off + (n - 1) * 2, none⟩ = some (.bool false)))
    (HW : Hid (∀ u, Calls Try.prog 83 #[.agg #[.int .i64 cl, .int .i64 sq, .int .i64 kd, .int .i64 id, .int .i64 mt, .string dt]] u fun e w' => e = .returned (.bool true) ∧ Below u.heap.size u w')) :
    Calls Try.prog 113 #[.slice (some ⟨b, off, none⟩) n cap, .agg #[.int .i64 cl, .int .i64 sq, .int .i64 kd, .int .i64 id, .int .i64 mt, .string dt], .int .i64 quota] w (Does L [] 5 (n : Int) ⟨#[]⟩ w) := by
  have HN := Lib.hid hn
  have p0 : (0 : Int) < (n : Int) := by omega
  have e0 : ((n : Int) == 0) = false := by rw [beq_eq_false_iff_ne]; omega
  have e1 : ((n : Int) != 0) = true := by rw [bne_iff_ne]; omega
  have g0 := HG.out _ (show Below w.heap.size w ((w.alloc (.cells #[.int .i64 cl, .int .i64 sq, .int .i64 kd, .int .i64 id, .int .i64 mt, .string dt] 34)).alloc (.cells #[.int .i64 0, .int .i64 0, .string ⟨#[]⟩, .slice none 0 0] 48)) by go_grown)
  clear hn
  have k0 : (kd == 1) = false := beq_eq_false_iff_ne.2 hk
  have k1 : (kd != 1) = true := bne_iff_ne.2 hk
  clear hk
  have m0 : (mt == 0) = false := beq_eq_false_iff_ne.2 hm
  have m1 : (mt != 0) = true := bne_iff_ne.2 hm
  clear hm
  have m2 : (mt == (n : Int)) = false := beq_eq_false_iff_ne.2 hm2
  have m3 : (mt != (n : Int)) = true := bne_iff_ne.2 hm2
  clear hm2
  go_enter Try.func113, Try.ntmps113
  go_wp2_with fail
  refine (HW.out _).mono ?_
  rintro e w1 ⟨rfl, B1⟩
  have C1 : Hid (Below w.heap.size w w1) := (((Below.refl _ w).alloc (Nat.le_refl _) _).alloc (by simp) _).trans (B1.mono (by simp; omega))
  have R1 : Hid (RepAt w1 (w.heap.size + 1) 0 0 ⟨#[]⟩ (.slice none 0 0)) := RepAt.keep (RepAt.new1 w _ 0 0 ⟨#[]⟩ (.slice none 0 0)) B1 (by simp)
  have D1 : Hid (ReqB w1 w.heap.size cl sq kd id mt dt) := ((ReqB.fresh w cl sq kd id mt dt 34).keep ((Below.refl (w.heap.size + 1) _).alloc (by simp) _) (by omega)).keep B1 (by simp; omega)
  obtain ⟨c0, c1, c2, c3, c4, c5⟩ := D1.out.cells
  obtain ⟨⟨d0, d1, d2, d3⟩, ⟨z0, z1, z2, z3⟩⟩ := R1.out.cells
  have HE := Lib.hid (rep_stored (c' := 5) (n' := (n : Int)) (d' := ⟨#[]⟩) R1.out (.slice none 0 0)).cells.1
  have HVV := Lib.hid (vers_low (R := w.heap.size + 1) (HV.out _ C1.out) (Nat.le_succ _) C1.out.size 5 (n : Int) ⟨#[]⟩ (.slice none 0 0))
  have HBB := Lib.hid (stored_below C1.out (Nat.le_succ w.heap.size) 5 (n : Int) ⟨#[]⟩ (.slice none 0 0))
  clear B1 D1 g0
  go_wp2
  obtain ⟨f0, f1, f2, f3⟩ := HE.out
  unfold stored at f0 f1 f2 f3
  refine bodyPost_ret (v := .tuple #[.slice (some ⟨b, off, none⟩) n cap, .agg #[.int .i64 5, .int .i64 (n : Int), .string ⟨#[]⟩, .slice none 0 0]]) (by simp [results, Try.results113, go_sem, f0, f1, f2, f3]) rfl ⟨_, cap, none, 0, by rw [HN.out]; rfl, ?_⟩
  rw [HN.out]
  exact ⟨HVV.out, Ints.none _ _, HBB.out⟩

set_option maxRecDepth 100000 in
set_option maxHeartbeats 1000000 in
theorem rn_c6 (b off n cap : Nat) (L : List VerV) (cl sq kd id : Int) (dt : ByteArray) (quota : Int) (w : World) (hq : quota ≤ (n : Int)) (hk : kd ≠ 1)  (hn : L.length = n) (h1 : 1 ≤ n) (hn6 : n ≤ 1000000)
    (HV : Hid (∀ u, Below w.heap.size w u → Vers u w.heap.size (.slice (some ⟨b, off, none⟩) n cap) L))
    (HG : Hid (∀ u, Below w.heap.size w u → u.cell? ⟨b, off + (n - 1) * 2, none⟩ = some (.bool false)))
    (HW : Hid (∀ u, Calls Try.prog 83 #[.agg #[.int .i64 cl, .int .i64 sq, .int .i64 kd, .int .i64 id, .int .i64 0, .string dt]] u fun e w' => e = .returned (.bool true) ∧ Below u.heap.size u w')) :
    Calls Try.prog 113 #[.slice (some ⟨b, off, none⟩) n cap, .agg #[.int .i64 cl, .int .i64 sq, .int .i64 kd, .int .i64 id, .int .i64 0, .string dt], .int .i64 quota] w (Does L [] 6 (n : Int) ⟨#[]⟩ w) := by
  have HN := Lib.hid hn
  have p0 : (0 : Int) < (n : Int) := by omega
  have e0 : ((n : Int) == 0) = false := by rw [beq_eq_false_iff_ne]; omega
  have e1 : ((n : Int) != 0) = true := by rw [bne_iff_ne]; omega
  have g0 := HG.out _ (show Below w.heap.size w ((w.alloc (.cells #[.int .i64 cl, .int .i64 sq, .int .i64 kd, .int .i64 id, .int .i64 0, .string dt] 34)).alloc (.cells #[.int .i64 0, .int .i64 0, .string ⟨#[]⟩, .slice none 0 0] 48)) by go_grown)
  clear hn
  have k0 : (kd == 1) = false := beq_eq_false_iff_ne.2 hk
  have k1 : (kd != 1) = true := bne_iff_ne.2 hk
  clear hk
  go_enter Try.func113, Try.ntmps113
  go_wp2_with fail
  refine (HW.out _).mono ?_
  rintro e w1 ⟨rfl, B1⟩
  have C1 : Hid (Below w.heap.size w w1) := (((Below.refl _ w).alloc (Nat.le_refl _) _).alloc (by simp) _).trans (B1.mono (by simp; omega))
  have R1 : Hid (RepAt w1 (w.heap.size + 1) 0 0 ⟨#[]⟩ (.slice none 0 0)) := RepAt.keep (RepAt.new1 w _ 0 0 ⟨#[]⟩ (.slice none 0 0)) B1 (by simp)
  have D1 : Hid (ReqB w1 w.heap.size cl sq kd id 0 dt) := ((ReqB.fresh w cl sq kd id 0 dt 34).keep ((Below.refl (w.heap.size + 1) _).alloc (by simp) _) (by omega)).keep B1 (by simp; omega)
  obtain ⟨c0, c1, c2, c3, c4, c5⟩ := D1.out.cells
  obtain ⟨⟨d0, d1, d2, d3⟩, ⟨z0, z1, z2, z3⟩⟩ := R1.out.cells
  have HE := Lib.hid (rep_stored (c' := 6) (n' := (n : Int)) (d' := ⟨#[]⟩) R1.out (.slice none 0 0)).cells.1
  have HVV := Lib.hid (vers_low (R := w.heap.size + 1) (HV.out _ C1.out) (Nat.le_succ _) C1.out.size 6 (n : Int) ⟨#[]⟩ (.slice none 0 0))
  have HBB := Lib.hid (stored_below C1.out (Nat.le_succ w.heap.size) 6 (n : Int) ⟨#[]⟩ (.slice none 0 0))
  clear B1 D1 g0
  go_wp2
  obtain ⟨f0, f1, f2, f3⟩ := HE.out
  unfold stored at f0 f1 f2 f3
  refine bodyPost_ret (v := .tuple #[.slice (some ⟨b, off, none⟩) n cap, .agg #[.int .i64 6, .int .i64 (n : Int), .string ⟨#[]⟩, .slice none 0 0]]) (by simp [results, Try.results113, go_sem, f0, f1, f2, f3]) rfl ⟨_, cap, none, 0, by rw [HN.out]; rfl, ?_⟩
  rw [HN.out]
  exact ⟨HVV.out, Ints.none _ _, HBB.out⟩

set_option maxRecDepth 100000 in
set_option maxHeartbeats 1000000 in
theorem rn_c7 (b off n cap : Nat) (L : List VerV) (cl sq kd id : Int) (dt : ByteArray) (quota : Int) (w : World) (hq : quota ≤ (n : Int)) (hk : kd ≠ 1)  (hn : L.length = n) (h1 : 1 ≤ n) (hn6 : n ≤ 1000000)
    (HV : Hid (∀ u, Below w.heap.size w u → Vers u w.heap.size (.slice (some ⟨b, off, none⟩) n cap) L))
    (HG : Hid (∀ u, Below w.heap.size w u → u.cell? ⟨b, off + (n - 1) * 2, none⟩ = some (.bool false)))
    (HW : Hid (∀ u, Calls Try.prog 83 #[.agg #[.int .i64 cl, .int .i64 sq, .int .i64 kd, .int .i64 id, .int .i64 (n : Int), .string dt]] u fun e w' => e = .returned (.bool true) ∧ Below u.heap.size u w')) :
    Calls Try.prog 113 #[.slice (some ⟨b, off, none⟩) n cap, .agg #[.int .i64 cl, .int .i64 sq, .int .i64 kd, .int .i64 id, .int .i64 (n : Int), .string dt], .int .i64 quota] w (Does L [] 6 (n : Int) ⟨#[]⟩ w) := by
  have HN := Lib.hid hn
  have p0 : (0 : Int) < (n : Int) := by omega
  have e0 : ((n : Int) == 0) = false := by rw [beq_eq_false_iff_ne]; omega
  have e1 : ((n : Int) != 0) = true := by rw [bne_iff_ne]; omega
  have g0 := HG.out _ (show Below w.heap.size w ((w.alloc (.cells #[.int .i64 cl, .int .i64 sq, .int .i64 kd, .int .i64 id, .int .i64 (n : Int), .string dt] 34)).alloc (.cells #[.int .i64 0, .int .i64 0, .string ⟨#[]⟩, .slice none 0 0] 48)) by go_grown)
  clear hn
  have k0 : (kd == 1) = false := beq_eq_false_iff_ne.2 hk
  have k1 : (kd != 1) = true := bne_iff_ne.2 hk
  clear hk
  go_enter Try.func113, Try.ntmps113
  go_wp2_with fail
  refine (HW.out _).mono ?_
  rintro e w1 ⟨rfl, B1⟩
  have C1 : Hid (Below w.heap.size w w1) := (((Below.refl _ w).alloc (Nat.le_refl _) _).alloc (by simp) _).trans (B1.mono (by simp; omega))
  have R1 : Hid (RepAt w1 (w.heap.size + 1) 0 0 ⟨#[]⟩ (.slice none 0 0)) := RepAt.keep (RepAt.new1 w _ 0 0 ⟨#[]⟩ (.slice none 0 0)) B1 (by simp)
  have D1 : Hid (ReqB w1 w.heap.size cl sq kd id (n : Int) dt) := ((ReqB.fresh w cl sq kd id (n : Int) dt 34).keep ((Below.refl (w.heap.size + 1) _).alloc (by simp) _) (by omega)).keep B1 (by simp; omega)
  obtain ⟨c0, c1, c2, c3, c4, c5⟩ := D1.out.cells
  obtain ⟨⟨d0, d1, d2, d3⟩, ⟨z0, z1, z2, z3⟩⟩ := R1.out.cells
  have HE := Lib.hid (rep_stored (c' := 6) (n' := (n : Int)) (d' := ⟨#[]⟩) R1.out (.slice none 0 0)).cells.1
  have HVV := Lib.hid (vers_low (R := w.heap.size + 1) (HV.out _ C1.out) (Nat.le_succ _) C1.out.size 6 (n : Int) ⟨#[]⟩ (.slice none 0 0))
  have HBB := Lib.hid (stored_below C1.out (Nat.le_succ w.heap.size) 6 (n : Int) ⟨#[]⟩ (.slice none 0 0))
  clear B1 D1 g0
  go_wp2
  obtain ⟨f0, f1, f2, f3⟩ := HE.out
  unfold stored at f0 f1 f2 f3
  refine bodyPost_ret (v := .tuple #[.slice (some ⟨b, off, none⟩) n cap, .agg #[.int .i64 6, .int .i64 (n : Int), .string ⟨#[]⟩, .slice none 0 0]]) (by simp [results, Try.results113, go_sem, f0, f1, f2, f3]) rfl ⟨_, cap, none, 0, by rw [HN.out]; rfl, ?_⟩
  rw [HN.out]
  exact ⟨HVV.out, Ints.none _ _, HBB.out⟩

set_option maxRecDepth 100000 in
set_option maxHeartbeats 1000000 in
theorem rask (ao : Option Addr) (n cap : Nat) (L : List VerV) (cl sq kd id mt : Int) (dt : ByteArray) (quota c r : Int) (d : ByteArray) (l : List Int) (w : World) (hn : L.length = n) (hn6 : n ≤ 1000000)
    (HV : Hid (∀ u, Below w.heap.size w u → Vers u w.heap.size (.slice ao n cap) L))
    (HW : Hid (∀ u, Calls Try.prog 83 #[.agg #[.int .i64 cl, .int .i64 sq, .int .i64 kd, .int .i64 id, .int .i64 mt, .string dt]] u fun e w' => e = .returned (.bool false) ∧ Below u.heap.size u w'))
    (HA : Hid (∀ u, Below w.heap.size w u → Calls Try.prog 127 #[.slice ao n cap, .agg #[.int .i64 cl, .int .i64 sq, .int .i64 kd, .int .i64 id, .int .i64 mt, .string dt]] u (Tells l c r d u))) :
    Calls Try.prog 113 #[.slice ao n cap, .agg #[.int .i64 cl, .int .i64 sq, .int .i64 kd, .int .i64 id, .int .i64 mt, .string dt], .int .i64 quota] w (Does L l c r d w) := by
  have HN := Lib.hid hn
  by_cases h0 : n = 0
  case' pos =>
    subst h0
    clear hn hn6
  case' neg =>
    obtain ⟨b, off, rfl, hb, hc⟩ := (HV.out w (Below.refl _ _)).at (by omega)
    have g0 := (show Below w.heap.size w ((w.alloc (.cells #[.int .i64 cl, .int .i64 sq, .int .i64 kd, .int .i64 id, .int .i64 mt, .string dt] 34)).alloc (.cells #[.int .i64 0, .int .i64 0, .string ⟨#[]⟩, .slice none 0 0] 48)) by go_grown).cell (p := ⟨b, off + (n - 1) * 2, none⟩) hb |>.trans (hc (n - 1) (by omega)).1
    generalize (at' L (n - 1)).gone = g at g0
    have p0 : (0 : Int) < (n : Int) := by omega
    have e0 : ((n : Int) == 0) = false := by rw [beq_eq_false_iff_ne]; omega
    have h1 : 1 ≤ n := by omega
    clear hn hb hc h0
  all_goals
    go_enter Try.func113, Try.ntmps113
    go_wp2_with fail
    refine (HW.out _).mono ?_
    rintro e w1 ⟨rfl, B1⟩
    have C1 : Hid (Below w.heap.size w w1) := (((Below.refl _ w).alloc (Nat.le_refl _) _).alloc (by simp) _).trans (B1.mono (by simp; omega))
    have R1 : Hid (RepAt w1 (w.heap.size + 1) 0 0 ⟨#[]⟩ (.slice none 0 0)) := RepAt.keep (RepAt.new1 w _ 0 0 ⟨#[]⟩ (.slice none 0 0)) B1 (by simp)
    have D1 : Hid (ReqB w1 w.heap.size cl sq kd id mt dt) := ((ReqB.fresh w cl sq kd id mt dt 34).keep ((Below.refl (w.heap.size + 1) _).alloc (by simp) _) (by omega)).keep B1 (by simp; omega)
    obtain ⟨c0, c1, c2, c3, c4, c5⟩ := D1.out.cells
    clear B1
    try clear g0
    go_wp2_with fail
    refine (HA.out _ C1.out).mono ?_
    rintro e w2 ⟨ao2, cap2, rfl, I2, L2, B2⟩
    have C2 : Hid (Below w.heap.size w w2) := C1.out.trans (B2.mono C1.out.size)
    have R2 := R1.out.keep B2 R1.out.lt
    have hlt := R1.out.lt
    obtain ⟨⟨d0, d1, d2, d3⟩, ⟨z0, z1, z2, z3⟩⟩ := R2.cells
    have HF := Lib.hid (tells_end (c := c) (r := r) (d := d) I2 C2.out (Nat.le_succ w.heap.size) (fun _ a ha => by have := L2 a ha; omega))
    have HE := Lib.hid (rep_stored (c' := c) (n' := r) (d' := d) R2 (.slice ao2 l.length cap2)).cells.1
    have HVV := Lib.hid (vers_low (R := w.heap.size + 1) (HV.out _ C2.out) (Nat.le_succ _) C2.out.size c r d (.slice ao2 l.length cap2))
    clear B2 R2 D1 R1 I2 L2 hlt c0 c1 c2 c3 c4 c5
    generalize hm : l.length = m
    rw [hm] at HE HVV
    have HM := Lib.hid hm
    clear hm
    go_wp2
    obtain ⟨f0, f1, f2, f3⟩ := HE.out
    unfold stored at f0 f1 f2 f3
    refine bodyPost_ret (v := .tuple #[_, .agg #[.int .i64 c, .int .i64 r, .string d, .slice ao2 m cap2]]) (by simp [results, Try.results113, go_sem, f0, f1, f2, f3]; rfl) rfl ⟨_, cap, ao2, cap2, by rw [HN.out, HM.out], ?_⟩
    have hf := HF.out
    rw [← HM.out, HN.out]
    refine ⟨?_, hf.1, hf.2⟩
    rw [HM.out]
    exact HVV.out
end Go.Proofs.Ytenjjgghoacboaa
