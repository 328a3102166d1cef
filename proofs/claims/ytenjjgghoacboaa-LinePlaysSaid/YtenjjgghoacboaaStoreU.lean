/-
  THE REFERENCE's STORE: Put where the request may be and writes.
-/
import Derived.Test.YtenjjgghoacboaaStoreG
import Derived.Deep.QuietTactic
import Derived.BigQuiet
import Derived.BigRegion
import Derived.StillTailTactics
namespace Go.Proofs.Ytenjjgghoacboaa
open Go.RowKit

theorem undrewN {w w' : World} {n : Nat} (h : Below (w.drewN n).heap.size (w.drewN n) w') : Below w.heap.size w w' := ⟨h.os, h.tape, h.output, h.size, h.block⟩

set_option maxRecDepth 100000 in
set_option maxHeartbeats 2000000 in
theorem rput_old (b c : Nat) (s : StoV) (sq kd id mt : Int) (dt : ByteArray) (w : World) (hc : c < 4) (h : Sto layR w b s) (hold : sq ≤ (s.cl c).seq)
    (HM : Hid (∀ u, Calls Try.prog 73 #[.agg #[.int .i64 c, .int .i64 sq, .int .i64 kd, .int .i64 id, .int .i64 mt, .string dt]] u fun e w' => e = .returned (.bool true) ∧ Below u.heap.size u w'))
    (HW : Hid (∀ u, Calls Try.prog 83 #[.agg #[.int .i64 c, .int .i64 sq, .int .i64 kd, .int .i64 id, .int .i64 mt, .string dt]] u fun e w' => e = .returned (.bool true) ∧ Below u.heap.size u w')) :
    Calls Try.prog 84 #[.pointer (some ⟨b, 0, none⟩), .agg #[.int .i64 c, .int .i64 sq, .int .i64 kd, .int .i64 id, .int .i64 mt, .string dt]] w (Refused 9 w) := by
  have i0 : (0 : Int) ≤ (c : Int) := by omega
  have i1 : (c : Int) < 4 := by omega
  obtain ⟨v, hv, c1, c2, c3, c4, c5, c6⟩ := sto_clientR h c hc
  have hbl := h.lt
  have HS := Lib.hid c1
  clear h hv c1 c2 c3 c4 c5 c6
  generalize (s.cl c).seq = ls at hold HS
  have hd : decide (sq ≤ ls) = true := decide_eq_true hold
  go_enter Try.func84, Try.ntmps84
  go_wp2_with fail
  refine (HM.out _).mono ?_
  rintro e w1 ⟨rfl, B1⟩
  have C1 : Hid (Below w.heap.size w w1) := (((Below.refl _ w).alloc (Nat.le_refl _) _).alloc (by simp) _).trans (B1.mono (by simp; omega))
  have R1 : Hid (RepAt w1 (w.heap.size + 1) 0 0 ⟨#[]⟩ (.slice none 0 0)) := RepAt.keep (RepAt.new1 w _ 0 0 ⟨#[]⟩ (.slice none 0 0)) B1 (by simp)
  have D1 : Hid (ReqB w1 w.heap.size c sq kd id mt dt) := ((ReqB.fresh w c sq kd id mt dt 34).keep ((Below.refl (w.heap.size + 1) _).alloc (by simp) _) (by omega)).keep B1 (by simp; omega)
  clear B1
  obtain ⟨c0, c1, c2, c3, c4, c5⟩ := D1.out.cells
  go_wp2_with fail
  refine (HW.out _).mono ?_
  rintro e w2 ⟨rfl, B2⟩
  have C2 : Hid (Below w.heap.size w w2) := C1.out.trans (B2.mono C1.out.size)
  have R2 := R1.out.keep B2 R1.out.lt
  have D2 := Lib.hid (D1.out.keep B2 D1.out.lt)
  have s2 : w2.cell? ⟨b, 34 + c, none⟩ = some (.int .i64 ls) := (C2.out.cell (p := ⟨b, 34 + c, none⟩) hbl).trans HS.out
  have HR2 := Lib.hid R2
  clear B2 R1 R2 D1 C1 c0 c1 c2 c3 c4 c5
  obtain ⟨c0, c1, c2, c3, c4, c5⟩ := D2.out.cells
  go_wp2
  go_quiet (fail)
  obtain ⟨w3, hw3⟩ : ∃ x, x = w2.drewN nq := ⟨_, rfl⟩
  rw [← hw3]
  have B3 : Below w2.heap.size w2 w3 := by rw [hw3]; exact drewN_below (Below.refl _ _) nq
  have R3 := HR2.out.keep B3 HR2.out.lt
  have C3 := Lib.hid (C2.out.trans (B3.mono C2.out.size))
  have HE := Lib.hid (rep_stored (c' := 0) (n' := 0) (d' := ⟨#[]⟩) R3 (.slice none 0 0)).cells.1
  have hlt := R3.lt
  obtain ⟨⟨x0, x1, x2, x3⟩, ⟨z0, z1, z2, z3⟩⟩ := R3.cells
  clear hw3 B3 R3 HR2 s2 c0 c1 c2 c3 c4 c5
  go_wp2
  obtain ⟨e0, e1, e2, e3⟩ := HE.out
  unfold stored at e0 e1 e2 e3
  refine bodyPost_ret (v := .tuple #[.agg #[.int .i64 0, .int .i64 0, .string ⟨#[]⟩, .slice none 0 0], .int .i64 9]) (by simp [results, Try.results84, go_sem, e0, e1, e2, e3]) rfl ⟨rfl, ?_⟩
  exact stored_below C3.out (Nat.le_succ _) _ _ _ _

/-- The cells of the reference's store behind a request that is taken. -/
def putG (f : Nat → Value) (i c : Nat) (v : Value) (n sq cd vr : Int) (d : ByteArray) (l : Value) : Nat → Value :=
  updF (updF (updF (updF (updF (updF (updF (updF f (2 + i) v) 1 (.int .i64 n)) (34 + c) (.int .i64 sq)) (38 + c) (.int .i64 n)) (42 + c * 4) (.int .i64 cd)) (42 + c * 4 + 1) (.int .i64 vr)) (42 + c * 4 + 2) (.string d)) (42 + c * 4 + 3) l
theorem tell_putG {w : World} {f : Nat → Value} {s : StoV} (ht : Tell layR w f s) {c i : Nat} (hc : c < 4) (hi : i < 32) {v : Value} {L' : List VerV} (hv : Vers w w.heap.size v L') (sq cd vr : Int) (d : ByteArray) {l : Value} (hl : Nil0 l) :
    Tell layR w (putG f i c v (s.places + 1) sq cd vr d l) { s with places := s.places + 1, cl := updF s.cl c ⟨sq, cd, vr, d, s.places + 1⟩, res := updF s.res i L' } := by
  have hne : ∀ x, v ≠ .bool x := by obtain ⟨_, _, rfl, _⟩ := hv; intro x h; cases h
  have hnl : ∀ x, l ≠ .bool x := by obtain ⟨_, _, rfl, _⟩ := hl; intro x h; cases h
  have at_ : ∀ k, putG f i c v (s.places + 1) sq cd vr d l k = if k = 42 + c * 4 + 3 then l else if k = 42 + c * 4 + 2 then .string d else if k = 42 + c * 4 + 1 then .int .i64 vr else if k = 42 + c * 4 then .int .i64 cd else if k = 38 + c then .int .i64 (s.places + 1) else if k = 34 + c then .int .i64 sq else if k = 1 then .int .i64 (s.places + 1) else if k = 2 + i then v else f k := fun k => rfl
  refine ⟨fun k hk x => ?_, ?_, ?_, fun c' hc' => ?_, fun i' hi' => ?_⟩
  · rw [at_]
    repeat' split
    all_goals first | exact hne x | exact hnl x | exact ht.1 k hk x | (intro h; cases h)
  · rw [at_, if_neg (by omega), if_neg (by omega), if_neg (by omega), if_neg (by omega), if_neg (by omega), if_neg (by omega), if_neg (by omega), if_neg (by omega)]
    exact ht.2.1
  · rw [at_, if_neg (by omega), if_neg (by omega), if_neg (by omega), if_neg (by omega), if_neg (by omega), if_neg (by omega), if_pos rfl]
  · show putG _ _ _ _ _ _ _ _ _ _ (34 + c') = _ ∧ putG _ _ _ _ _ _ _ _ _ _ (38 + c') = _ ∧ putG _ _ _ _ _ _ _ _ _ _ (42 + c' * 4) = _ ∧ putG _ _ _ _ _ _ _ _ _ _ (42 + c' * 4 + 1) = _ ∧ putG _ _ _ _ _ _ _ _ _ _ (42 + c' * 4 + 2) = _ ∧ Nil0 (putG _ _ _ _ _ _ _ _ _ _ (42 + c' * 4 + 3))
    dsimp only
    by_cases e : c' = c
    · subst e
      rw [show (updF s.cl c' ⟨sq, cd, vr, d, s.places + 1⟩ c') = ⟨sq, cd, vr, d, s.places + 1⟩ from updF_same _ _ _]
      refine ⟨?_, ?_, ?_, ?_, ?_, ?_⟩
      · rw [at_, if_neg (by omega), if_neg (by omega), if_neg (by omega), if_neg (by omega), if_neg (by omega), if_pos rfl]
      · rw [at_, if_neg (by omega), if_neg (by omega), if_neg (by omega), if_neg (by omega), if_pos rfl]
      · rw [at_, if_neg (by omega), if_neg (by omega), if_neg (by omega), if_pos rfl]
      · rw [at_, if_neg (by omega), if_neg (by omega), if_pos rfl]
      · rw [at_, if_neg (by omega), if_pos rfl]
      · rw [at_, if_pos rfl]; exact hl
    · have far : ∀ k, 34 ≤ k → k ≠ 34 + c → k ≠ 38 + c → k ≠ 42 + c * 4 → k ≠ 42 + c * 4 + 1 → k ≠ 42 + c * 4 + 2 → k ≠ 42 + c * 4 + 3 → putG f i c v (s.places + 1) sq cd vr d l k = f k := fun k h0 h1 h2 h3 h4 h5 h6 => by
        rw [at_, if_neg h6, if_neg h5, if_neg h4, if_neg h3, if_neg h2, if_neg h1, if_neg (by omega), if_neg (by omega)]
      rw [show (updF s.cl c ⟨sq, cd, vr, d, s.places + 1⟩ c') = s.cl c' from updF_other _ _ _ _ e]
      have h := ht.2.2.2.1 c' hc'
      exact ⟨(far (34 + c') (by omega) (by omega) (by omega) (by omega) (by omega) (by omega) (by omega)).trans h.1, (far (38 + c') (by omega) (by omega) (by omega) (by omega) (by omega) (by omega) (by omega)).trans h.2.1, (far (42 + c' * 4) (by omega) (by omega) (by omega) (by omega) (by omega) (by omega) (by omega)).trans h.2.2.1,
        (far (42 + c' * 4 + 1) (by omega) (by omega) (by omega) (by omega) (by omega) (by omega) (by omega)).trans h.2.2.2.1, (far (42 + c' * 4 + 2) (by omega) (by omega) (by omega) (by omega) (by omega) (by omega) (by omega)).trans h.2.2.2.2.1, (far (42 + c' * 4 + 3) (by omega) (by omega) (by omega) (by omega) (by omega) (by omega) (by omega)) ▸ h.2.2.2.2.2⟩
  · show Vers w w.heap.size (putG _ _ _ _ _ _ _ _ _ _ (2 + i')) (updF s.res i L' i')
    by_cases e : i' = i
    · subst e
      rw [updF_same, at_, if_neg (by omega), if_neg (by omega), if_neg (by omega), if_neg (by omega), if_neg (by omega), if_neg (by omega), if_neg (by omega), if_pos rfl]
      exact hv
    · rw [updF_other _ _ _ _ e, at_, if_neg (by omega), if_neg (by omega), if_neg (by omega), if_neg (by omega), if_neg (by omega), if_neg (by omega), if_neg (by omega), if_neg (by omega)]
      exact ht.2.2.2.2 i' hi'

set_option maxRecDepth 100000 in
set_option maxHeartbeats 4000000 in
theorem rput_done (b c i : Nat) (s : StoV) (sq kd mt : Int) (dt : ByteArray) (L' : List VerV) (n' : Nat) (cd vr : Int) (d : ByteArray) (w : World) (hc : c < 4) (hi : i < 32) (h : Sto layR w b s) (hnew : (s.cl c).seq < sq)
    (hpl : 0 ≤ s.places) (hpl2 : s.places ≤ 1000000)
    (HM : Hid (∀ u, Calls Try.prog 73 #[.agg #[.int .i64 c, .int .i64 sq, .int .i64 kd, .int .i64 i, .int .i64 mt, .string dt]] u fun e w' => e = .returned (.bool true) ∧ Below u.heap.size u w'))
    (HW : Hid (∀ u, Calls Try.prog 83 #[.agg #[.int .i64 c, .int .i64 sq, .int .i64 kd, .int .i64 i, .int .i64 mt, .string dt]] u fun e w' => e = .returned (.bool true) ∧ Below u.heap.size u w'))
    (HD : Hid (∀ u v, Vers u u.heap.size v (s.res i) → Calls Try.prog 113 #[v, .agg #[.int .i64 c, .int .i64 sq, .int .i64 kd, .int .i64 i, .int .i64 mt, .string dt], .int .i64 s.quota] u (DoesN L' n' [] 0 cd vr d u))) :
    Calls Try.prog 84 #[.pointer (some ⟨b, 0, none⟩), .agg #[.int .i64 c, .int .i64 sq, .int .i64 kd, .int .i64 i, .int .i64 mt, .string dt]] w
      (PutTold layR b { s with places := s.places + 1, cl := updF s.cl c ⟨sq, cd, vr, d, s.places + 1⟩, res := updF s.res i L' } cd vr d w) := by
  have i0 : (0 : Int) ≤ (c : Int) := by omega
  have i1 : (c : Int) < 4 := by omega
  have j0 : (0 : Int) ≤ (i : Int) := by omega
  have j1 : (i : Int) < 32 := by omega
  have H := Lib.hid h
  have hbl := h.lt
  have HL : Hid (∀ u, Below w.heap.size w u → u.cell? ⟨b, 34 + c, none⟩ = some (.int .i64 (s.cl c).seq)) := fun u hu => by
    obtain ⟨v, hv, c1, _⟩ := sto_clientR (h.on hu) c hc
    exact c1
  have HQ : Hid (∀ u, Below w.heap.size w u → u.cell? ⟨b, 0, none⟩ = some (.int .i64 s.quota)) := fun u hu => by
    obtain ⟨f, hk, ht⟩ := h.on hu
    exact ht.2.1 ▸ hk.cell 0 (by decide)
  obtain ⟨ar, cr, hcr, hvr⟩ := sto_resR h i hi
  have HO : Hid (∀ u, Below w.heap.size w u → u.cell? ⟨b, 2 + i, none⟩ = some (.slice ar (s.res i).length cr)) := fun u hu => (hu.cell (p := ⟨b, 2 + i, none⟩) hbl).trans hcr
  have HD2 : Hid (∀ u, Below w.heap.size w u → Calls Try.prog 113 #[.slice ar (s.res i).length cr, .agg #[.int .i64 c, .int .i64 sq, .int .i64 kd, .int .i64 i, .int .i64 mt, .string dt], .int .i64 s.quota] u (DoesN L' n' [] 0 cd vr d u)) :=
    fun u hu => HD.out u _ (hvr.on hu)
  clear h hcr hvr HD
  generalize (s.res i).length = nr at HO HD2
  generalize (s.cl c).seq = ls at hnew HL
  have hd : decide (sq ≤ ls) = false := decide_eq_false (by omega)
  go_enter Try.func84, Try.ntmps84
  go_wp2_with fail
  refine (HM.out _).mono ?_
  rintro e w1 ⟨rfl, B1⟩
  have C1 : Hid (Below w.heap.size w w1) := (((Below.refl _ w).alloc (Nat.le_refl _) _).alloc (by simp) _).trans (B1.mono (by simp; omega))
  have R1 : Hid (RepAt w1 (w.heap.size + 1) 0 0 ⟨#[]⟩ (.slice none 0 0)) := RepAt.keep (RepAt.new1 w _ 0 0 ⟨#[]⟩ (.slice none 0 0)) B1 (by simp)
  have D1 : Hid (ReqB w1 w.heap.size c sq kd i mt dt) := ((ReqB.fresh w c sq kd i mt dt 34).keep ((Below.refl (w.heap.size + 1) _).alloc (by simp) _) (by omega)).keep B1 (by simp; omega)
  clear B1
  obtain ⟨c0, c1, c2, c3, c4, c5⟩ := D1.out.cells
  go_wp2_with fail
  refine (HW.out _).mono ?_
  rintro e w2 ⟨rfl, B2⟩
  have C2 : Hid (Below w.heap.size w w2) := C1.out.trans (B2.mono C1.out.size)
  have R2 := Lib.hid (R1.out.keep B2 R1.out.lt)
  have D2 := Lib.hid (D1.out.keep B2 D1.out.lt)
  have s2 := HL.out w2 C2.out
  clear B2 R1 D1 C1 c0 c1 c2 c3 c4 c5
  obtain ⟨c0, c1, c2, c3, c4, c5⟩ := D2.out.cells
  go_wp2
  go_quiet (fail)
  obtain ⟨w4, hw4⟩ : ∃ x, x = w2.drewN nq := ⟨_, rfl⟩
  rw [← hw4]
  have B4 : Below w2.heap.size w2 w4 := by rw [hw4]; exact drewN_below (Below.refl _ _) nq
  have R4 := Lib.hid (R2.out.keep B4 R2.out.lt)
  have D4 := Lib.hid (D2.out.keep B4 D2.out.lt)
  have C4 := Lib.hid (C2.out.trans (B4.mono C2.out.size))
  clear hw4 B4 R2 D2 s2 c0 c1 c2 c3 c4 c5
  obtain ⟨c0, c1, c2, c3, c4, c5⟩ := D4.out.cells
  have q4 := HQ.out w4 C4.out
  have o4 := HO.out w4 C4.out
  have HZ : Hid (∀ u, Below w4.heap.size w4 u → Below w.heap.size w u) := fun u hu => C4.out.trans (hu.mono C4.out.size)
  have HK4 : Hid (∀ u, Below w4.heap.size w4 u → u.cell? ⟨b, 0, none⟩ = some (.int .i64 s.quota) ∧ Hid (Below w.heap.size w u) ∧ Hid (RepAt u (w.heap.size + 1) 0 0 ⟨#[]⟩ (.slice none 0 0)) ∧ Hid (ReqB u w.heap.size c sq kd i mt dt) ∧ w.heap.size + 2 ≤ u.heap.size ∧ u.cell? ⟨b, 2 + i, none⟩ = some (.slice ar nr cr) ∧
      u.cell? ⟨w.heap.size, 0, none⟩ = some (.int .i64 c) ∧ u.cell? ⟨w.heap.size, 1, none⟩ = some (.int .i64 sq) ∧ u.cell? ⟨w.heap.size, 2, none⟩ = some (.int .i64 kd) ∧ u.cell? ⟨w.heap.size, 3, none⟩ = some (.int .i64 i) ∧ u.cell? ⟨w.heap.size, 4, none⟩ = some (.int .i64 mt) ∧ u.cell? ⟨w.heap.size, 5, none⟩ = some (.string dt)) :=
    fun u hu => ⟨HQ.out u (C4.out.trans (hu.mono C4.out.size)), C4.out.trans (hu.mono C4.out.size), R4.out.keep hu R4.out.lt, D4.out.keep hu D4.out.lt, by have := hu.size; have := R4.out.lt; omega, HO.out u (C4.out.trans (hu.mono C4.out.size)), (D4.out.keep hu D4.out.lt).cells⟩
  have HK5 : Hid (∀ u, Below (w4.alloc (.cells #[.int .i64 0, .int .i64 0, .string ⟨#[]⟩, .slice none 0 0] 48)).drew.heap.size (w4.alloc (.cells #[.int .i64 0, .int .i64 0, .string ⟨#[]⟩, .slice none 0 0] 48)).drew u → RepAt u w4.heap.size 0 0 ⟨#[]⟩ (.slice none 0 0) ∧ u.cell? ⟨b, 0, none⟩ = some (.int .i64 s.quota) ∧ Hid (Below w.heap.size w u) ∧ Hid (RepAt u (w.heap.size + 1) 0 0 ⟨#[]⟩ (.slice none 0 0)) ∧ Hid (ReqB u w.heap.size c sq kd i mt dt) ∧ w.heap.size + 2 ≤ u.heap.size ∧ u.cell? ⟨b, 2 + i, none⟩ = some (.slice ar nr cr) ∧
      u.cell? ⟨w.heap.size, 0, none⟩ = some (.int .i64 c) ∧ u.cell? ⟨w.heap.size, 1, none⟩ = some (.int .i64 sq) ∧ u.cell? ⟨w.heap.size, 2, none⟩ = some (.int .i64 kd) ∧ u.cell? ⟨w.heap.size, 3, none⟩ = some (.int .i64 i) ∧ u.cell? ⟨w.heap.size, 4, none⟩ = some (.int .i64 mt) ∧ u.cell? ⟨w.heap.size, 5, none⟩ = some (.string dt)) :=
    fun u hu => ⟨RepAt.keep (RepAt.new w4 0 0 ⟨#[]⟩ (.slice none 0 0)) (undrew hu) (by simp), HK4.out u (((Below.refl _ w4).alloc (Nat.le_refl _) _).trans ((undrew hu).mono (by simp)))⟩
  have n0 := World.new_ne w4 _ c0
  have n6 := World.new_ne w4 _ q4
  go_upto_region 5 with fail
  go_cut [6, 7] (fun s8 s9 wr => CutP w c sq kd i mt dt L' n' cd vr d s8 s9 wr)
  case first =>
    go_region_held3 (fun u => u.cell? ⟨b, 0, none⟩ = some (.int .i64 s.quota) ∧ u.cell? ⟨b, 2 + i, none⟩ = some (.slice ar nr cr) ∧ u.cell? ⟨w.heap.size, 0, none⟩ = some (.int .i64 c) ∧ u.cell? ⟨w.heap.size, 1, none⟩ = some (.int .i64 sq) ∧ u.cell? ⟨w.heap.size, 2, none⟩ = some (.int .i64 kd) ∧ u.cell? ⟨w.heap.size, 3, none⟩ = some (.int .i64 i) ∧ u.cell? ⟨w.heap.size, 4, none⟩ = some (.int .i64 mt) ∧ u.cell? ⟨w.heap.size, 5, none⟩ = some (.string dt)) (first | assumption | go_keep)
      (first
        | (go_at_call 113; (with_reducible refine (HD2.out w4.drew (HZ.out _ (by go_grown))).mono ?_); rintro e w5 ⟨av, ac, ao, cap, rfl, V5, I5, B5⟩; obtain ⟨q5, C5, R5, D5, z5, o5, d0, d1, d2, d3, d4, d5⟩ := HK4.out _ (undrew B5); have HV := Lib.hid V5; have HI := Lib.hid (Nil0.of I5); have m0 := World.new_ne w5 _ d0; have m6 := World.new_ne w5 _ q5; clear B5 V5 I5)
        | (go_at_call 113; (with_reducible refine (HD2.out (w4.alloc (.cells #[.int .i64 0, .int .i64 0, .string ⟨#[]⟩, .slice none 0 0] 48)).drew (HZ.out _ (by go_grown))).mono ?_); rintro e w5 ⟨av, ac, ao, cap, rfl, V5, I5, B5⟩; obtain ⟨x5, q5, C5, R5, D5, z5, o5, d0, d1, d2, d3, d4, d5⟩ := HK5.out _ B5; have X5 := Lib.hid x5; have hlt5 := x5.lt; obtain ⟨⟨x0, x1, x2, x3⟩, ⟨y0, y1, y2, y3⟩⟩ := x5.cells; have HV := Lib.hid V5; have HI := Lib.hid (Nil0.of I5); clear B5 V5 I5 x5))
    all_goals
      rename_i hS
      clear hS
      go_wp2
      go_meet
    all_goals first | exact cutp_new C5.out R5.out D5.out HV.out HI.out z5 | exact cutp_old X5.out C5.out R5.out D5.out HV.out HI.out (by have := C4.out.size; have := R4.out.lt; omega)
  case rest =>
    obtain ⟨av, ac, ao, cap, R, rfl, rfl, hR, x5, nil5, v5, r5, d5, b5⟩ := hcut
    obtain ⟨f, hk, ht⟩ := H.out.on b5
    have HN5 := Lib.hid nil5
    have HB5 := Lib.hid b5
    have HT := Lib.hid ht
    have HF := Lib.hid hk
    have HNB := Lib.hid (hk.nobool ht.1)
    have HV5 := Lib.hid v5
    have X5 := Lib.hid x5
    have D5 := Lib.hid d5
    have R5 := Lib.hid r5
    have bR : b ≠ R := by omega
    have Rb : R ≠ b := by omega
    have bQ : b ≠ w.heap.size := by omega
    have Qb : w.heap.size ≠ b := by omega
    have bT : b ≠ w.heap.size + 1 := by omega
    have Tb : w.heap.size + 1 ≠ b := by omega
    have k1 := hk.cell (2 + i) (by omega)
    have k2 := hk.free (2 + i)
    obtain ⟨d0, d1, d2, d3, d4, d6⟩ := d5.cells
    clear v5 x5 d5 r5 nil5 ht hk H n0 n6 HZ HK4 HK5 HO HD2 HM HW HQ HL c0 c1 c2 c3 c4 c5 R4 D4 C4 q4 o4 b5 d0 d1 d2 d4 d6
    go_upto_region 6 with fail
    go_still_tail 7, (by kernel_rfl)
    go_upto_region 7 with fail
    obtain ⟨w6, hw6⟩ : ∃ x, x = (wc.setCell ⟨b, 2 + i, none⟩ (.slice av n' ac)).drew := ⟨_, rfl⟩
    rw [← hw6]
    have F6 : Blk w6 b 146 58 (updF f (2 + i) (.slice av n' ac)) := by rw [hw6]; exact Blk.drew (HF.out.set (2 + i) _)
    have B6 : Besides b wc w6 := by rw [hw6]; exact Besides.drew (Besides.setCell _ _ _ _)
    have p6 := F6.cell 1 (by decide)
    rw [updF_other _ _ _ _ (by omega), HT.out.2.2.1] at p6
    have p6' := F6.free 1
    have HF6 := Lib.hid F6
    have HB6 := Lib.hid B6
    clear hw6 F6 B6 k1 k2 HF d3
    go_upto_region 8 with fail
    obtain ⟨w7, hw7⟩ : ∃ x, x = w6.setCell ⟨b, 1, none⟩ (.int .i64 (s.places + 1)) := ⟨_, rfl⟩
    rw [← hw7]
    have F7 : Blk w7 b 146 58 (updF (updF f (2 + i) (.slice av n' ac)) 1 (.int .i64 (s.places + 1))) := by rw [hw7]; exact HF6.out.set 1 _
    have B7 : Besides b wc w7 := HB6.out.trans (by rw [hw7]; exact Besides.setCell _ _ _ _)
    have p7 := F7.cell 1 (by decide)
    rw [updF_same] at p7
    have q0 := F7.cell (34 + c) (by omega)
    have q1 := F7.cell (38 + c) (by omega)
    have q2 := F7.cell (42 + c * 4) (by omega)
    have q3 := F7.cell (42 + c * 4 + 1) (by omega)
    have q4 := F7.cell (42 + c * 4 + 2) (by omega)
    have q5 := F7.cell (42 + c * 4 + 3) (by omega)
    have r0 := F7.free (34 + c)
    have r1 := F7.free (38 + c)
    have r2 := F7.free (42 + c * 4)
    have r3 := F7.free (42 + c * 4 + 1)
    have r4 := F7.free (42 + c * 4 + 2)
    have r5 := F7.free (42 + c * 4 + 3)
    obtain ⟨d0, d1, d2, d3, d4, d5⟩ := (D5.out.besides B7 Qb).cells
    obtain ⟨⟨x0, x1, x2, x3⟩, _⟩ := (X5.out.besides B7 Rb).cells
    have HF7 := Lib.hid F7
    have HB7 := Lib.hid B7
    clear hw7 F7 B7 p6 p6' HF6 HB6 d2 d3 d4 d5
    go_region
    go_upto_region 9 with fail
    obtain ⟨w9, hw9⟩ : ∃ x, x = ((((((w7.setCell ⟨b, 34 + c, none⟩ (.int .i64 sq)).setCell ⟨b, 38 + c, none⟩ (.int .i64 (s.places + 1))).setCell ⟨b, 42 + c * 4, none⟩ (.int .i64 cd)).setCell ⟨b, 42 + c * 4 + 1, none⟩ (.int .i64 vr)).setCell ⟨b, 42 + c * 4 + 2, none⟩ (.string d)).setCell ⟨b, 42 + c * 4 + 3, none⟩ (.slice ao 0 cap)).drew := ⟨_, rfl⟩
    rw [← hw9]
    have F9 : Blk w9 b 146 58 (putG f i c (.slice av n' ac) (s.places + 1) sq cd vr d (.slice ao 0 cap)) := by
      rw [hw9]
      exact Blk.drew ((((((HF7.out.set _ _).set _ _).set _ _).set _ _).set _ _).set _ _)
    have B9 : Besides b wc w9 := by
      refine HB7.out.trans ?_
      rw [hw9]
      exact Besides.drew ((((((Besides.setCell b (34 + c) w7 (.int .i64 sq)).trans (Besides.setCell b (38 + c) _ (.int .i64 (s.places + 1)))).trans (Besides.setCell b (42 + c * 4) _ (.int .i64 cd))).trans (Besides.setCell b (42 + c * 4 + 1) _ (.int .i64 vr))).trans (Besides.setCell b (42 + c * 4 + 2) _ (.string d))).trans (Besides.setCell b (42 + c * 4 + 3) _ (.slice ao 0 cap)))
    have X9 := X5.out.besides B9 Rb
    have T9 := R5.out.besides B9 Tb
    have hvv : ∀ v L, Vers wc wc.heap.size v L → Vers w9 w9.heap.size v L := fun v L h => (h.besides (Nat.le_refl _) HNB.out B9).mono B9.size
    have S9 : Sto layR w9 b { s with places := s.places + 1, cl := updF s.cl c ⟨sq, cd, vr, d, s.places + 1⟩, res := updF s.res i L' } := ⟨_, F9, tell_putG (HT.out.vers hvv) hc hi (hvv _ _ HV5.out) sq cd vr d HN5.out⟩
    have TB : NoBool w9 (w.heap.size + 1) := T9.nobool (by intro x h; cases h)
    have BB : Besides b w w9 := (Besides.of HB5.out).trans B9
    have HS9 := Lib.hid (S9.besides TB (stored_besides w9 (w.heap.size + 1) cd vr d (.slice ao 0 cap)) bT)
    have HBB := Lib.hid (BB.stored (Nat.le_succ _) cd vr d (.slice ao 0 cap))
    have HE := Lib.hid (rep_stored (c' := cd) (n' := vr) (d' := d) T9 (.slice ao 0 cap)).cells.1
    obtain ⟨⟨x0, x1, x2, x3⟩, _⟩ := X9.cells
    obtain ⟨⟨y0, y1, y2, y3⟩, ⟨z0, z1, z2, z3⟩⟩ := T9.cells
    have TR : w.heap.size + 1 ≠ R := by omega
    have hRT : R ≠ w.heap.size + 1 := by omega
    clear hw9 F9 B9 X9 T9 hvv S9 TB BB q0 q1 q2 q3 q4 q5 r0 r1 r2 r3 r4 r5 HF7 HB7 p7 d0 d1
    go_wp2
    obtain ⟨e0, e1, e2, e3⟩ := HE.out
    unfold stored at e0 e1 e2 e3
    refine bodyPost_ret (v := .tuple #[.agg #[.int .i64 cd, .int .i64 vr, .string d, .slice ao 0 cap], .int .i64 0]) (by simp [results, Try.results84, go_sem, e0, e1, e2, e3]) rfl ⟨ao, cap, rfl, HN5.out, HBB.out, HS9.out⟩

/-- The reference's Put as one contract. -/
theorem rput_r (b : Nat) (s s' : StoV) (N : Nat) (cl sq kd id mt : Int) (dt : ByteArray) (cd vr : Int) (d : ByteArray) (x : Int) (HP : Hid (putA s ⟨cl, sq, kd, id, mt, dt⟩ = ⟨s', cd, vr, d, x⟩)) (hd : dt.size ≤ maxLen) (hf : Fit s N) (hN : N ≤ 1000000) (w : World) (h : Sto layR w b s) :
    Calls Try.prog 84 #[.pointer (some ⟨b, 0, none⟩), .agg #[.int .i64 cl, .int .i64 sq, .int .i64 kd, .int .i64 id, .int .i64 mt, .string dt]] w (PutR layR b s' cd vr d x w) := by
  have hd' : dt.size ≤ 9223372036854775807 := by unfold maxLen at hd; omega
  have HP' := HP.out
  by_cases hm : ReqV.may ⟨cl, sq, kd, id, mt, dt⟩
  · have HM : Hid (∀ u, Calls Try.prog 73 #[.agg #[.int .i64 cl, .int .i64 sq, .int .i64 kd, .int .i64 id, .int .i64 mt, .string dt]] u fun e w' => e = .returned (.bool true) ∧ Below u.heap.size u w') :=
      fun u => refmay_r cl sq kd id mt dt hd' true (decide_eq_true hm).symm u
    have hm' := hm
    unfold ReqV.may at hm'
    simp only at hm'
    by_cases hw : kd ≤ 3
    · have HW : Hid (∀ u, Calls Try.prog 83 #[.agg #[.int .i64 cl, .int .i64 sq, .int .i64 kd, .int .i64 id, .int .i64 mt, .string dt]] u fun e w' => e = .returned (.bool true) ∧ Below u.heap.size u w') :=
        fun u => refwrites_r cl sq kd id mt dt true (show _ = _ from (decide_eq_true (show 1 ≤ kd ∧ kd ≤ 3 by omega)).symm) u
      obtain ⟨c, rfl⟩ : ∃ c : Nat, cl = c := ⟨cl.toNat, by omega⟩
      obtain ⟨i, rfl⟩ : ∃ i : Nat, id = i := ⟨id.toNat, by omega⟩
      have hc : c < 4 := by omega
      have hi : i < 32 := by omega
      by_cases ho : sq ≤ (s.cl c).seq
      · rw [putA_old s _ ⟨hm, hw⟩ (by simpa using ho)] at HP'
        obtain ⟨rfl, rfl, rfl, rfl, rfl⟩ := PutA.mk.inj HP'
        exact (rput_old b c s sq kd i mt dt w hc h ho HM HW).mono fun e w' hr => hr.put h
      · rw [putA_nat s c i sq kd mt dt ⟨hm, hw⟩ ho] at HP'
        obtain ⟨rfl, rfl, rfl, rfl, rfl⟩ := PutA.mk.inj HP'
        have hwr : wrV kd = true := by unfold wrV; simp only [Bool.or_eq_true, beq_iff_eq]; omega
        have hq := hf.places
        have HR : doR (s.res i) kd mt s.quota = ⟨(doR (s.res i) kd mt s.quota).code, (doR (s.res i) kd mt s.quota).ver, (doR (s.res i) kd mt s.quota).data, []⟩ := by
          rw [← doR_list (s.res i) kd mt s.quota hwr]
        exact rput_done b c i s sq kd mt dt (doL (s.res i) kd mt dt s.quota) (doL (s.res i) kd mt dt s.quota).length _ _ _ w hc hi h (by omega) hq.1 (by omega) HM HW
          (fun u v hv => (refdo_r v (s.res i) _ _ c sq kd i mt dt s.quota _ _ _ [] (show _ = _ from rfl) (show _ = _ from HR) u hv (Nat.le_refl _) (by have := (hf.res i hi).1; omega)).mono fun _ _ h => h.n rfl rfl)
    · have HW : Hid (∀ u, Calls Try.prog 83 #[.agg #[.int .i64 cl, .int .i64 sq, .int .i64 kd, .int .i64 id, .int .i64 mt, .string dt]] u fun e w' => e = .returned (.bool false) ∧ Below u.heap.size u w') :=
        fun u => refwrites_r cl sq kd id mt dt false (show _ = _ from (decide_eq_false (show ¬ (1 ≤ kd ∧ kd ≤ 3) by omega)).symm) u
      rw [putA_bad s _ (fun hp => hw hp.2)] at HP'
      obtain ⟨rfl, rfl, rfl, rfl, rfl⟩ := PutA.mk.inj HP'
      exact (rput_bad2 b cl sq kd id mt dt w HM HW).mono fun e w' hr => hr.put h
  · have HM : Hid (∀ u, Calls Try.prog 73 #[.agg #[.int .i64 cl, .int .i64 sq, .int .i64 kd, .int .i64 id, .int .i64 mt, .string dt]] u fun e w' => e = .returned (.bool false) ∧ Below u.heap.size u w') :=
      fun u => refmay_r cl sq kd id mt dt hd' false (decide_eq_false hm).symm u
    rw [putA_bad s _ (fun hp => hm hp.1)] at HP'
    obtain ⟨rfl, rfl, rfl, rfl, rfl⟩ := PutA.mk.inj HP'
    exact (rput_bad1 b cl sq kd id mt dt w HM).mono fun e w' hr => hr.put h
end Go.Proofs.Ytenjjgghoacboaa
