/-
  THE REFERENCE's CLOCKS: their block and two rows; NewClocks, Tick, Round, Fair. No condition but that lists are no longer than lists may be.
-/
import Derived.Test.YtcfcoepifhijcaaClockF
namespace Go.Proofs.Ytcfcoepifhijcaa
open Go.RowKit

/-- Block b is a row of so many numbers. -/
def RowA (w : World) (b len : Nat) (f : Nat → Nat) : Prop := w.heap[b]? = some (.cells (rowF len f).toArray 3 (0, 0))
section
variable {w w' : World} {b len : Nat} {f : Nat → Nat}
theorem RowA.lt (H : RowA w b len f) : b < w.heap.size := lt_of_block H
theorem RowA.cell (H : RowA w b len f) {j : Nat} (hj : j < len) : w.cell? ⟨b, j, none⟩ = some (.int .i64 (f j : Nat)) ∧ w.frozen? ⟨b, j, none⟩ = false := by
  have H' : w.heap[b]? = some (.cells (rowF len f).toArray 3 (0, 0)) := H
  exact ⟨by rw [cell_of_row _ _ _ _ _ _ H']; simpa using rowF_get f hj, by simp [World.frozen?, H']⟩
theorem RowA.keep {S : Nat → Prop} (H : RowA w b len f) (ho : Only S w w') (hs : ¬ S b) : RowA w' b len f := (ho.block b H.lt hs).trans H
theorem RowA.on (H : RowA w b len f) (hb : Below w.heap.size w w') : RowA w' b len f := H.keep (S := fun _ => False) (.of hb) (fun h => h)
theorem RowA.set (H : RowA w b len f) (k v : Nat) : RowA (w.setCell ⟨b, k, none⟩ (.int .i64 (v : Nat))) b len (upF f k v) := by
  show _ = _
  rw [heap_setCell_same _ _ _ _ _ _ H, List.setIfInBounds_toArray, rowF_set]
theorem RowA.other (H : RowA w b len f) {x o : Nat} (v : Value) (h : b ≠ x) : RowA (w.setCell ⟨x, o, none⟩ v) b len f := H.keep (Only.set x o w v) h
theorem RowA.drew (H : RowA w b len f) : RowA w.drew b len f := H.keep (S := fun _ => False) (Only.drew (.refl _ _)) (fun h => h)
theorem RowA.new (w : World) (len : Nat) : RowA (w.alloc (.cells (madeCells #[Value.int .i64 0] len) 3)) w.heap.size len (fun _ => 0) := by
  show _ = _
  rw [heap_alloc_new w]
  congr 2
  apply Array.ext'
  rw [toList_madeCells_one, rowF_zero]
theorem RowA.kind (H : RowA w b len f) {x n : Nat} {f' g' : Nat → Nat} (C : Ck w x n f' g') : b ≠ x := by
  rintro rfl
  have := (show w.heap[b]? = _ from H).symm.trans C.blk
  simp at this
end

/-- Clocks of the program's stand. -/
def KClk (w w' : World) : Prop := ∀ b n f g, Ck w b n f g → Ck w' b n f g
theorem KClk.refl (w : World) : KClk w w := fun _ _ _ _ h => h
theorem KClk.trans {u v w : World} (h : KClk u v) (k : KClk v w) : KClk u w := fun _ _ _ _ x => k _ _ _ _ (h _ _ _ _ x)
theorem KClk.on {w w' : World} (h : Below w.heap.size w w') : KClk w w' := fun _ _ _ _ x => x.on h

/-- Block rb is the reference's clocks, from block m on: n of them that show s. -/
structure RCk (w : World) (m rb ab nb n : Nat) (s : CkS) : Prop where
  blk : w.heap[rb]? = some (.cells #[.slice (some ⟨ab, 0, none⟩) n n, .slice (some ⟨nb, 0, none⟩) n n] 34 (0, 0))
  all : RowA w ab n s.f
  now : RowA w nb n s.g
  n1 : ab ≠ nb
  low : m ≤ rb ∧ m ≤ ab ∧ m ≤ nb
  pos : 0 < n
  le : n ≤ 9
section
variable {w w' : World} {m rb ab nb n : Nat} {s : CkS}
theorem RCk.n2 (H : RCk w m rb ab nb n s) : rb ≠ ab ∧ rb ≠ nb := by
  constructor
  · rintro rfl
    have := H.blk.symm.trans H.all
    simp at this
  · rintro rfl
    have := H.blk.symm.trans H.now
    simp at this
theorem RCk.cells (H : RCk w m rb ab nb n s) : w.cell? ⟨rb, 0, none⟩ = some (.slice (some ⟨ab, 0, none⟩) n n) ∧ w.cell? ⟨rb, 1, none⟩ = some (.slice (some ⟨nb, 0, none⟩) n n) ∧ w.frozen? ⟨rb, 1, none⟩ = false := by
  have H' := H.blk
  exact ⟨by rw [cell_of_row _ _ _ _ _ _ H']; rfl, by rw [cell_of_row _ _ _ _ _ _ H']; rfl, by simp [World.frozen?, H']⟩
theorem RCk.keep {S : Nat → Prop} (H : RCk w m rb ab nb n s) (ho : Only S w w') (h1 : ¬ S rb) (h2 : ¬ S ab) (h3 : ¬ S nb) : RCk w' m rb ab nb n s :=
  ⟨(ho.block rb (lt_of_block H.blk) h1).trans H.blk, H.all.keep ho h2, H.now.keep ho h3, H.n1, H.low, H.pos, H.le⟩
theorem RCk.on (H : RCk w m rb ab nb n s) (hb : Below w.heap.size w w') : RCk w' m rb ab nb n s := H.keep (S := fun _ => False) (.of hb) (fun h => h) (fun h => h) (fun h => h)
theorem RCk.notck (H : RCk w m rb ab nb n s) {x n' : Nat} {f' g' : Nat → Nat} (C : Ck w x n' f' g') : rb ≠ x := by
  rintro rfl
  have := H.blk.symm.trans C.blk
  simp at this
/-- They stand while clocks of the program's turn. -/
theorem RCk.beside (H : RCk w m rb ab nb n s) {x n' : Nat} {f' g' : Nat → Nat} (C : Ck w x n' f' g') (ho : Only (· = x) w w') : RCk w' m rb ab nb n s :=
  H.keep ho (H.notck C) (H.all.kind C) (H.now.kind C)
theorem RCk.drew (H : RCk w m rb ab nb n s) : RCk w.drew m rb ab nb n s := H.keep (S := fun _ => False) (Only.drew (.refl _ _)) (fun h => h) (fun h => h) (fun h => h)
theorem RCk.tick (H : RCk w m rb ab nb n s) (k : Nat) : RCk ((w.setCell ⟨ab, k, none⟩ (.int .i64 (s.f k + 1 : Nat))).setCell ⟨nb, k, none⟩ (.int .i64 (s.g k + 1 : Nat))) m rb ab nb n ⟨upF s.f k (s.f k + 1), upF s.g k (s.g k + 1)⟩ := by
  have o1 := Only.set ab k w (.int .i64 (s.f k + 1 : Nat))
  have o2 := Only.set nb k (w.setCell ⟨ab, k, none⟩ (.int .i64 (s.f k + 1 : Nat))) (.int .i64 (s.g k + 1 : Nat))
  have l1 : rb < w.heap.size := lt_of_block H.blk
  refine ⟨?_, (H.all.set k _).keep o2 H.n1, (H.now.keep o1 (Ne.symm H.n1)).set k _, H.n1, H.low, H.pos, H.le⟩
  rw [o2.block rb (Nat.lt_of_lt_of_le l1 o1.size) H.n2.2, o1.block rb l1 H.n2.1]
  exact H.blk
theorem RCk.kclk (H : RCk w m rb ab nb n s) {w' : World} {S : Nat → Prop} (ho : Only S w w') (hs : ∀ x, S x → x = rb ∨ x = ab ∨ x = nb) : KClk w w' := fun x n' f' g' C => C.keep ho fun hx => by
  rcases hs x hx with rfl | rfl | rfl
  · exact H.notck C rfl
  · exact H.all.kind C rfl
  · exact H.now.kind C rfl
theorem RCk.below (H : RCk w m rb ab nb n s) {w' : World} {S : Nat → Prop} (ho : Only S w w') (hs : ∀ x, S x → x = rb ∨ x = ab ∨ x = nb) {a : World} (hb : Below m a w) (hm : m ≤ w.heap.size) : Below m a w' := ho.below hb (fun x hx => by have := H.low; rcases hs x hx with rfl | rfl | rfl <;> omega) hm
end
/-- The reference's clocks turned to s. -/
def RT (m rb n : Nat) (s : CkS) (w w' : World) : Prop := (∃ ab nb, RCk w' m rb ab nb n s) ∧ KClk w w' ∧ (∀ a, Below m a w → Below m a w')

theorem only_two (a b i j : Nat) (w : World) (x y : Value) : Only (fun x => x = a ∨ x = b) w ((w.setCell ⟨a, i, none⟩ x).setCell ⟨b, j, none⟩ y) :=
  ((Only.set a i w x).mono (S' := fun x => x = a ∨ x = b) fun _ _ hx => .inl hx).trans ((Only.set b j (w.setCell ⟨a, i, none⟩ x) y).mono fun _ _ hx => .inr hx)
set_option maxHeartbeats 400000 in
theorem rcnew_no (n : Int) (w : World) (hn : ¬ (1 ≤ n ∧ n ≤ 9)) : Calls Try.prog 13 #[.int .i64 n] w fun e w' => e = .returned (.pointer none) ∧ w = w' := by
  by_cases h : n < 1
  · clear hn
    go_enter Try.func13, Try.ntmps13
    go_wp2
    go_returns
    exact ⟨rfl, rfl⟩
  · have h9 : 9 < n := by omega
    clear hn
    go_enter Try.func13, Try.ntmps13
    go_wp2
    go_returns
    exact ⟨rfl, rfl⟩
theorem rcmade (n : Nat) (w : World) (h1 : 0 < n) (h9 : n ≤ 9) {x y : Nat} (hxy : x = w.heap.size ∧ y = w.heap.size + 1 ∨ x = w.heap.size + 1 ∧ y = w.heap.size) :
    RCk (((w.alloc (.cells (madeCells #[Value.int .i64 0] n) 3)).alloc (.cells (madeCells #[Value.int .i64 0] n) 3)).alloc (.cells #[.slice (some ⟨x, 0, none⟩) n n, .slice (some ⟨y, 0, none⟩) n n] 34)).drew w.heap.size (w.heap.size + 1 + 1) x y n .zero := by
  have r0 := RowA.new w n
  have r1 := RowA.new (w.alloc (.cells (madeCells #[Value.int .i64 0] n) 3)) n
  have e1 : (w.alloc (.cells (madeCells #[Value.int .i64 0] n) 3)).heap.size = w.heap.size + 1 := by simp
  rw [e1] at r1
  have r0' := r0.on ((Below.refl _ _).alloc (Nat.le_refl _) (.cells (madeCells #[Value.int .i64 0] n) 3))
  have q0 := r0'.on ((Below.refl _ _).alloc (Nat.le_refl _) (.cells #[.slice (some ⟨x, 0, none⟩) n n, .slice (some ⟨y, 0, none⟩) n n] 34))
  have q1 := r1.on ((Below.refl _ _).alloc (Nat.le_refl _) (.cells #[.slice (some ⟨x, 0, none⟩) n n, .slice (some ⟨y, 0, none⟩) n n] 34))
  have hb := heap_alloc_new ((w.alloc (.cells (madeCells #[Value.int .i64 0] n) 3)).alloc (.cells (madeCells #[Value.int .i64 0] n) 3)) (.cells #[.slice (some ⟨x, 0, none⟩) n n, .slice (some ⟨y, 0, none⟩) n n] 34)
  have e2 : ((w.alloc (.cells (madeCells #[Value.int .i64 0] n) 3)).alloc (.cells (madeCells #[Value.int .i64 0] n) 3)).heap.size = w.heap.size + 1 + 1 := by simp
  rw [e2] at hb
  refine RCk.drew ⟨hb, ?_, ?_, by omega, by omega, h1, h9⟩
  · rcases hxy with ⟨rfl, rfl⟩ | ⟨rfl, rfl⟩
    · exact q0
    · exact q1
  · rcases hxy with ⟨rfl, rfl⟩ | ⟨rfl, rfl⟩
    · exact q1
    · exact q0
set_option maxRecDepth 100000 in
set_option maxHeartbeats 2000000 in
theorem rcnew_yes (n : Nat) (w : World) (h1 : 0 < n) (h9 : n ≤ 9) : Calls Try.prog 13 #[.int .i64 n] w fun e w' => ∃ rb, e = .returned (.pointer (some ⟨rb, 0, none⟩)) ∧ (∃ ab nb, RCk w' w.heap.size rb ab nb n .zero) ∧ Below w.heap.size w w' := by
  have a1 : ¬ (n : Int) < 1 := by omega
  have a9 : ¬ 9 < (n : Int) := by omega
  have R1 := Lib.hid (rcmade n w h1 h9 (.inl ⟨rfl, rfl⟩))
  have R2 := Lib.hid (rcmade n w h1 h9 (.inr ⟨rfl, rfl⟩))
  have hmk := fun u : World => run_make_row' (P := Try.prog) 22 3 (.int .i64 0) 8 Try.underlying22 cinfo_int rfl .i64 .i64 n (by omega) (by omega) u
  clear h1 h9
  go_enter Try.func13, Try.ntmps13
  go_wp2_with fail
  go_region
  all_goals
    go_wp2
    go_returns
    exact ⟨_, rfl, ⟨_, _, by first | exact R1.out | exact R2.out⟩, Below.drew ((((Below.refl _ _).alloc (Nat.le_refl _) _).alloc (by simp) _).alloc (by simp; omega) _)⟩

set_option maxRecDepth 100000 in
set_option maxHeartbeats 2000000 in
theorem rctick_yes {w : World} {m rb ab nb n : Nat} {s : CkS} (H : RCk w m rb ab nb n s) (k : Nat) (hk : k < n) (hg : s.g k ≤ 1) (hf : s.f k < maxLen) :
    Calls Try.prog 15 #[.pointer (some ⟨rb, 0, none⟩), .int .i64 k] w fun e w' => e = .returned (.bool true) ∧ RCk w' m rb ab nb n ⟨upF s.f k (s.f k + 1), upF s.g k (s.g k + 1)⟩ ∧ Only (fun x => x = ab ∨ x = nb) w w' := by
  obtain ⟨c0, c1, _⟩ := H.cells
  obtain ⟨d0, z0⟩ := H.all.cell hk
  obtain ⟨d1, z1⟩ := H.now.cell hk
  have hne := H.n1
  obtain ⟨hr1, hr2⟩ := H.n2
  have k1 : (k : Int) < (n : Int) := by omega
  have k0 : (0 : Int) ≤ (k : Int) := by omega
  have hg' : ((s.g k : Nat) : Int) ≤ 1 := by omega
  have s1 : IntKind.i64.wrap ((s.f k : Int) + 1) = (s.f k : Int) + 1 := by unfold maxLen at hf; rw [IntKind.wrap_i64]; omega
  have s2 : IntKind.i64.wrap ((s.g k : Int) + 1) = (s.g k : Int) + 1 := by rw [IntKind.wrap_i64]; omega
  have HE := Lib.hid (H.tick k)
  have HO := Lib.hid (only_two ab nb k k w (.int .i64 ((s.f k + 1 : Nat) : Int)) (.int .i64 ((s.g k + 1 : Nat) : Int)))
  generalize s.g k = gk at *
  generalize s.f k = fk at *
  clear hg hf hk H
  go_enter Try.func15, Try.ntmps15
  go_wp2
  go_returns
  exact ⟨rfl, HE.out, HO.out⟩
set_option maxHeartbeats 1000000 in
theorem rctick_full {w : World} {m rb ab nb n : Nat} {s : CkS} (H : RCk w m rb ab nb n s) (k : Nat) (hk : k < n) (hg : 1 < s.g k) :
    Calls Try.prog 15 #[.pointer (some ⟨rb, 0, none⟩), .int .i64 k] w fun e w' => e = .returned (.bool false) ∧ w = w' := by
  obtain ⟨c0, c1, _⟩ := H.cells
  obtain ⟨d1, z1⟩ := H.now.cell hk
  have k1 : (k : Int) < (n : Int) := by omega
  have k0 : (0 : Int) ≤ (k : Int) := by omega
  have hg' : 1 < ((s.g k : Nat) : Int) := by omega
  generalize s.g k = gk at *
  clear hg hk H
  go_enter Try.func15, Try.ntmps15
  go_wp2
  go_returns
  exact ⟨rfl, rfl⟩
set_option maxHeartbeats 1000000 in
theorem rctick_no {w : World} {m rb ab nb n : Nat} {s : CkS} (H : RCk w m rb ab nb n s) (k : Int) (hk : ¬ (0 ≤ k ∧ k < (n : Int))) :
    Calls Try.prog 15 #[.pointer (some ⟨rb, 0, none⟩), .int .i64 k] w fun e w' => e = .returned (.bool false) ∧ w = w' := by
  obtain ⟨c0, c1, _⟩ := H.cells
  clear H
  by_cases h0 : k < 0
  · clear hk
    go_enter Try.func15, Try.ntmps15
    go_wp2
    go_returns
    exact ⟨rfl, rfl⟩
  · have h1 : (n : Int) ≤ k := by omega
    clear hk
    go_enter Try.func15, Try.ntmps15
    go_wp2
    go_returns
    exact ⟨rfl, rfl⟩
theorem rctick {w : World} {m rb ab nb n : Nat} {s : CkS} (H : RCk w m rb ab nb n s) (hm : m ≤ w.heap.size) (k : Int) {u : Nat} (hu : s.upto u) (hl : u < maxLen) {r : Bool} (hr : canT n s k = r) :
    Calls Try.prog 15 #[.pointer (some ⟨rb, 0, none⟩), .int .i64 k] w fun e w' => e = .returned (.bool r) ∧ RT m rb n (tickS n s k) w w' := by
  subst hr
  have hrefl : RT m rb n s w w := ⟨⟨_, _, H⟩, KClk.refl w, fun _ h => h⟩
  by_cases h : 0 ≤ k ∧ k < (n : Int)
  · obtain ⟨j, rfl⟩ : ∃ j : Nat, k = j := ⟨k.toNat, by omega⟩
    by_cases hg : s.g j ≤ 1
    · have hc : canT n s j = true := decide_eq_true ⟨h.1, h.2, hg⟩
      unfold tickS
      rw [if_pos hc, hc]
      refine (rctick_yes H j (by omega) hg (by have := hu j; omega)).mono fun e w' ⟨he, hR, ho⟩ => ⟨he, ⟨_, _, hR⟩, H.kclk ho fun x hx => .inr hx, fun a hb => H.below ho (fun x hx => .inr hx) hb hm⟩
    · have hc : canT n s j = false := decide_eq_false fun x => hg x.2.2
      unfold tickS
      rw [hc, if_neg (by decide)]
      exact (rctick_full H j (by omega) (by omega)).mono fun e w' ⟨he, hw⟩ => ⟨he, hw ▸ hrefl⟩
  · have hc : canT n s k = false := decide_eq_false fun x => h ⟨x.1, x.2.1⟩
    unfold tickS
    rw [hc, if_neg (by decide)]
    exact (rctick_no H k h).mono fun e w' ⟨he, hw⟩ => ⟨he, hw ▸ hrefl⟩

set_option maxRecDepth 100000 in
set_option maxHeartbeats 2000000 in
theorem rcround {w : World} {m rb ab nb n : Nat} {s : CkS} (H : RCk w m rb ab nb n s) (hm : m ≤ w.heap.size) {r : Bool} (hr : canR n s = r) :
    Calls Try.prog 14 #[.pointer (some ⟨rb, 0, none⟩)] w fun e w' => e = .returned (.bool r) ∧ RT m rb n (roundS n s) w w' := by
  obtain ⟨c0, c1, z1⟩ := H.cells
  have HC := Lib.hid (fun j (hj : j < n) => (H.now.cell hj).1)
  have n9 : n ≤ 9 := H.le
  have hrb : rb < w.heap.size := lt_of_block H.blk
  have hmk := fun u : World => run_make_row' (P := Try.prog) 22 3 (.int .i64 0) 8 Try.underlying22 cinfo_int rfl .i64 .i64 n (by have := H.le; omega) (by have := H.le; omega) u
  have HMK := Lib.hid hmk
  have HYes : Hid ((¬ ∃ j, j < n ∧ s.g j = 0) → r = true ∧ RT m rb n (roundS n s) w ((w.alloc (.cells (madeCells #[Value.int .i64 0] n) 3)).setCell ⟨rb, 1, none⟩ (.slice (some ⟨w.heap.size, 0, none⟩) n n))) := fun h => by
    have hc : canR n s = true := decide_eq_true h
    refine ⟨hr.symm.trans hc, ?_⟩
    unfold roundS
    rw [if_pos hc]
    have hb := (Below.refl w.heap.size w).alloc (Nat.le_refl _) (.cells (madeCells #[Value.int .i64 0] n) 3)
    have r0 := RowA.new w n
    have h1 := H.on hb
    have ho := Only.set rb 1 (w.alloc (.cells (madeCells #[Value.int .i64 0] n) 3)) (.slice (some ⟨w.heap.size, 0, none⟩) n n)
    have l1 : rb < w.heap.size := lt_of_block H.blk
    have l2 := H.all.lt
    refine ⟨⟨ab, w.heap.size, ⟨?_, h1.all.keep ho (fun e => H.n2.1 e.symm), r0.keep ho (fun e => by omega), by omega, ⟨H.low.1, H.low.2.1, hm⟩, H.pos, H.le⟩⟩, ?_, ?_⟩
    · rw [heap_setCell_same _ _ _ _ _ _ h1.blk]; rfl
    · exact (KClk.on hb).trans (h1.kclk ho fun x hx => .inl hx)
    · exact fun a ha => ho.below (ha.trans (hb.mono hm)) (fun x hx => hx ▸ H.low.1) (by simp; omega)
  have HNo : Hid ((∃ j, j < n ∧ s.g j = 0) → r = false ∧ RT m rb n (roundS n s) w w) := fun h => by
    have hc : canR n s = false := decide_eq_false fun x => x h
    refine ⟨hr.symm.trans hc, ?_⟩
    unfold roundS
    rw [hc, if_neg (by decide)]
    exact ⟨⟨_, _, H⟩, KClk.refl w, fun _ h => h⟩
  generalize roundS n s = s2 at *
  generalize hgg : s.g = g at *
  clear H hr hm hgg hmk
  go_enter Try.func14, Try.ntmps14
  go_wp2
  go_loopw [3] (fun s3 wr => ∃ k : Nat, k ≤ n ∧ s3 = .int .i64 k ∧ Hid (∀ j, j < k → g j ≠ 0) ∧ w = wr) (fun s3 _ => n - (intOf s3).toNat)
  case atStart => exact ⟨0, Nat.zero_le _, rfl, (fun j hj => absurd hj (by omega)), rfl⟩
  case round =>
    obtain ⟨k, hk, rfl, HK, rfl⟩ := hrel
    by_cases hlt : k < n
    · have q0 := HC.out k hlt
      have k1 : (k : Int) < (n : Int) := by omega
      have k0 : (0 : Int) ≤ (k : Int) := by omega
      cases hg : g k with
      | zero =>
        rw [hg] at q0
        have HX := Lib.hid (HNo.out ⟨k, hlt, hg⟩)
        clear hg
        go_wp2
        go_returns
        exact ⟨ret_bool HX.out.1.symm, HX.out.2⟩
      | succ i =>
        rw [hg] at q0
        have HK2 : Hid (∀ j, j < k + 1 → g j ≠ 0) := fun j hj => by
          rcases (show j < k ∨ j = k by omega) with h | rfl
          · exact HK.out j h
          · omega
        have hi : (((i + 1 : Nat) : Int) == (0 : Int)) = false := beq_eq_false_iff_ne.2 (by omega)
        clear hg
        go_wp2
        go_roundw
        case rel => exact ⟨k + 1, by omega, by go_num, HK2.out, by first | rfl | trivial⟩
        case measure => simp [intOf]; omega
    · have hle : (n : Int) ≤ (k : Int) := by omega
      obtain rfl : k = n := by omega
      have HX := Lib.hid (HYes.out fun ⟨j, hj, h⟩ => HK.out j hj h)
      have hmk := HMK.out
      go_wp2
      go_returns
      exact ⟨ret_bool HX.out.1.symm, by have := HX.out.2; rwa [World.setCell_alloc_past _ _ _ _ hrb] at this⟩

/-- What a tick does to the reference's. -/
theorem rt_tick {w : World} {m rb n : Nat} {s : CkS} (H : ∃ ab nb, RCk w m rb ab nb n s) (hm : m ≤ w.heap.size) (k : Int) {u : Nat} (hu : s.upto u) (hl : u < maxLen) {r : Bool} (hr : canT n s k = r) :
    Calls Try.prog 15 #[.pointer (some ⟨rb, 0, none⟩), .int .i64 k] w fun e w' => e = .returned (.bool r) ∧ RT m rb n (tickS n s k) w w' := by
  obtain ⟨ab, nb, H⟩ := H
  exact rctick H hm k hu hl hr
theorem rt_round {w : World} {m rb n : Nat} {s : CkS} (H : ∃ ab nb, RCk w m rb ab nb n s) (hm : m ≤ w.heap.size) {r : Bool} (hr : canR n s = r) :
    Calls Try.prog 14 #[.pointer (some ⟨rb, 0, none⟩)] w fun e w' => e = .returned (.bool r) ∧ RT m rb n (roundS n s) w w' := by
  obtain ⟨ab, nb, H⟩ := H
  exact rcround H hm hr

set_option maxRecDepth 100000 in
set_option maxHeartbeats 2000000 in
theorem rcfair_some (a : Option Addr) (len c : Nat) (n : Nat) (L : List Int) (w : World) (h1 : 0 < n) (h9 : n ≤ 9) (hI : Ints w w.heap.size (.slice a len c) L) :
    Calls Try.prog 17 #[.slice a len c, .int .i64 n] w fun e w' => e = .returned (.bool (fairS n .zero L)) ∧ Below w.heap.size w w' := by
  have HN := Lib.hid (rcnew_yes n w h1 h9)
  obtain ⟨_, _, hv, hcap, hmax, _, hcells⟩ := hI
  cases hv
  obtain ⟨len, hl⟩ : ∃ len, len = L.length := ⟨_, rfl⟩
  obtain ⟨m, hb⟩ : ∃ m, m = w.heap.size := ⟨_, rfl⟩
  rw [← hl] at hcap ⊢
  rw [← hb] at HN hcells ⊢
  have HL := Lib.hid hl
  have HC := Lib.hid hcells
  have HB := Lib.hid hb
  have HM := Lib.hid (show len ≤ maxLen from Nat.le_trans hcap hmax)
  obtain ⟨R, hR⟩ : ∃ R, R = fairS n .zero L := ⟨_, rfl⟩
  rw [← hR]
  have HR := Lib.hid hR
  clear hcells hl hb hR hcap hmax h1 h9
  go_enter Try.func17, Try.ntmps17
  go_wp2_with fail
  refine HN.out.mono ?_
  rintro e w1 ⟨rb, rfl, C1, B1⟩
  have HC1 := Lib.hid C1
  have HB1 := Lib.hid B1
  clear C1 B1 HN
  go_wp2_with fail
  go_loopw [6] (fun s6 wr => ∃ (k : Nat) (s : CkS), s6 = .int .i64 k ∧ k ≤ len ∧ Hid (s.upto k) ∧ Hid (R = fairS n s (L.drop k)) ∧ Hid (∃ ab nb, RCk wr m rb ab nb n s) ∧ Hid (Below m w wr)) (fun s6 _ => len - (intOf s6).toNat)
  case atStart => exact ⟨0, .zero, rfl, Nat.zero_le _, upto_zero, HR.out, HC1.out, HB1.out⟩
  case round =>
    obtain ⟨k, s, rfl, hk, HU, HF, HS, HW⟩ := hrel
    by_cases hlt : k < len
    · obtain ⟨xb, off, rfl, hxb, hc⟩ := HC.out (List.length_pos_iff.1 (by have := HL.out; omega))
      have hq := hc k (by have := HL.out; omega)
      have HE := Lib.hid (fairS_step n s L k (by have := HL.out; omega))
      have k1 : (k : Int) < (len : Int) := by omega
      have k0 : (0 : Int) ≤ (k : Int) := by omega
      have HK1 := Lib.hid (wrap_next hlt HM.out)
      clear hc
      generalize L.getD k 0 = x at hq HE
      have q0 := (HW.out.cell (p := ⟨xb, off + k, none⟩) hxb).trans hq
      have HQ := Lib.hid (fun (u : World) (hu : Below m w u) => (hu.cell (p := ⟨xb, off + k, none⟩) hxb).trans hq)
      have HLM := Lib.hid (Nat.lt_of_lt_of_le hlt HM.out)
      have HSz := Lib.hid (fun (u : World) (hu : Below m w u) => (show m ≤ u.heap.size from by have := hu.size; have := HB.out; omega))
      clear hq hxb
      cases h1 : canT n s x with
      | true =>
        have hs : stepS n s x = some (tickS n s x) := by unfold stepS; rw [if_pos h1]
        have HU' := Lib.hid (HU.out.step hs)
        have HT := Lib.hid (rt_tick HS.out (HSz.out _ HW.out) x HU.out HLM.out h1)
        rw [hs] at HE
        have HF' : Hid (R = fairS n (tickS n s x) (L.drop (k + 1))) := HF.out.trans HE.out
        generalize tickS n s x = s' at *
        clear hs h1 HE
        go_wp2_with fail
        refine HT.out.mono ?_
        rintro e w2 ⟨rfl, C2, K2, B2⟩
        have HC2 := Lib.hid C2
        have HO2 := Lib.hid (B2 _ HW.out)
        clear C2 K2 B2
        go_wp2
        go_roundw
        case rel => exact ⟨k + 1, s', congrArg (Value.int .i64) HK1.out, by omega, HU'.out, HF'.out, HC2.out, HO2.out⟩
        case measure => rw [HK1.out]; simp [intOf]; omega
      | false =>
        have h0 : tickS n s x = s := by unfold tickS; rw [h1, if_neg (by decide)]
        have HT := Lib.hid (rt_tick HS.out (HSz.out _ HW.out) x HU.out HLM.out h1)
        rw [h0] at HT
        cases h2 : canR n s with
        | false =>
          have hs : stepS n s x = none := by unfold stepS; rw [h1, h2]; rfl
          rw [hs] at HE
          have HRf : Hid (R = false) := HF.out.trans HE.out
          clear hs h1 h0 HE
          go_wp2_with fail
          refine HT.out.mono ?_
          rintro e w2 ⟨rfl, C2, K2, B2⟩
          have HO2 := Lib.hid (B2 _ HW.out)
          have HT3 := Lib.hid (rt_round C2 (HSz.out _ HO2.out) h2)
          clear C2 K2 B2 h2
          go_wp2_with fail
          refine HT3.out.mono ?_
          rintro e w3 ⟨rfl, C3, K3, B3⟩
          have HO3 := Lib.hid (B3 _ HO2.out)
          clear C3 K3 B3
          go_wp2
          go_returns
          exact ⟨ret_bool HRf.out.symm, HO3.out⟩
        | true =>
          obtain ⟨r, h3⟩ : ∃ r, canT n (roundS n s) x = r := ⟨_, rfl⟩
          have hs : stepS n s x = if r then some (tickS n (roundS n s) x) else none := by unfold stepS; rw [h1, h2, h3]; rfl
          cases r with
          | false =>
            rw [if_neg (by decide)] at hs
            rw [hs] at HE
            have HRf : Hid (R = false) := HF.out.trans HE.out
            clear hs h1 h0 HE
            go_wp2_with fail
            refine HT.out.mono ?_
            rintro e w2 ⟨rfl, C2, K2, B2⟩
            have HO2 := Lib.hid (B2 _ HW.out)
            have HT3 := Lib.hid (rt_round C2 (HSz.out _ HO2.out) h2)
            clear C2 K2 B2 h2
            go_wp2_with fail
            refine HT3.out.mono ?_
            rintro e w3 ⟨rfl, C3, K3, B3⟩
            have HO3 := Lib.hid (B3 _ HO2.out)
            have HT4 := Lib.hid (rt_tick C3 (HSz.out _ HO3.out) x HU.out.round HLM.out h3)
            have q3 := HQ.out _ HO3.out
            clear C3 K3 B3 h3
            go_wp2_with fail
            refine HT4.out.mono ?_
            rintro e w4 ⟨rfl, C4, K4, B4⟩
            have HO4 := Lib.hid (B4 _ HO3.out)
            clear C4 K4 B4
            go_wp2
            go_returns
            exact ⟨ret_bool HRf.out.symm, HO4.out⟩
          | true =>
            rw [if_pos rfl] at hs
            have HU' := Lib.hid (HU.out.step hs)
            rw [hs] at HE
            have HF' : Hid (R = fairS n (tickS n (roundS n s) x) (L.drop (k + 1))) := HF.out.trans HE.out
            clear hs h1 h0 HE
            go_wp2_with fail
            refine HT.out.mono ?_
            rintro e w2 ⟨rfl, C2, K2, B2⟩
            have HO2 := Lib.hid (B2 _ HW.out)
            have HT3 := Lib.hid (rt_round C2 (HSz.out _ HO2.out) h2)
            clear C2 K2 B2 h2
            go_wp2_with fail
            refine HT3.out.mono ?_
            rintro e w3 ⟨rfl, C3, K3, B3⟩
            have HO3 := Lib.hid (B3 _ HO2.out)
            have HT4 := Lib.hid (rt_tick C3 (HSz.out _ HO3.out) x HU.out.round HLM.out h3)
            have q3 := HQ.out _ HO3.out
            clear C3 K3 B3 h3
            go_wp2_with fail
            refine HT4.out.mono ?_
            rintro e w4 ⟨rfl, C4, K4, B4⟩
            have HC4 := Lib.hid C4
            have HO4 := Lib.hid (B4 _ HO3.out)
            clear C4 K4 B4
            go_wp2
            go_roundw
            case rel => exact ⟨k + 1, _, congrArg (Value.int .i64) HK1.out, by omega, HU'.out, HF'.out, HC4.out, HO4.out⟩
            case measure => rw [HK1.out]; simp [intOf]; omega
    · have k1 : (len : Int) ≤ (k : Int) := by omega
      have HRt : Hid (R = true) := by
        show R = true
        rw [HF.out, List.drop_of_length_le (by have := HL.out; omega)]
        rfl
      go_wp2
      go_returns
      exact ⟨ret_bool HRt.out.symm, HW.out⟩
set_option maxHeartbeats 400000 in
theorem rcfair_none (a : Option Addr) (len c : Nat) (n : Int) (w : World) (hn : ¬ (1 ≤ n ∧ n ≤ 9)) :
    Calls Try.prog 17 #[.slice a len c, .int .i64 n] w fun e w' => e = .returned (.bool false) ∧ w = w' := by
  have HN := Lib.hid (rcnew_no n w hn)
  clear hn
  go_enter Try.func17, Try.ntmps17
  go_wp2_with fail
  refine HN.out.mono ?_
  rintro e w1 ⟨rfl, rfl⟩
  go_wp2
  go_returns
  exact ⟨rfl, rfl⟩
theorem rcfair {a : Option Addr} {len c : Nat} {L : List Int} {w : World} {B : Nat} (hI : Ints w B (.slice a len c) L) (hB : B ≤ w.heap.size) (n : Int) {r : Bool} (hr : fairV n L = r) :
    Calls Try.prog 17 #[.slice a len c, .int .i64 n] w fun e w' => e = .returned (.bool r) ∧ Below w.heap.size w w' := by
  subst hr
  unfold fairV
  by_cases h : 1 ≤ n ∧ n ≤ 9
  · rw [if_pos h]
    obtain ⟨j, rfl⟩ : ∃ j : Nat, n = j := ⟨n.toNat, by omega⟩
    exact rcfair_some a len c j L w (by omega) (by omega) (hI.mono hB)
  · rw [if_neg h]
    exact (rcfair_none a len c n w h).mono fun e w' ⟨he, hw⟩ => ⟨he, hw ▸ Below.refl _ _⟩
end Go.Proofs.Ytcfcoepifhijcaa
