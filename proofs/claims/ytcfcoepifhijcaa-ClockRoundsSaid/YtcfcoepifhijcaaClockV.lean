/-
  CLOCKS IN MEMORY: their block; New, has, Tick, At. No condition but that a clock shows less than 2^62.
-/
import Derived.Test.YtcfcoepifhijcaaOnly
import Derived.Test.YtcfcoepifhijcaaItemCV
import Derived.Test.YtcfcoepifhijcaaHeld
import Derived.BigQuiet
import Derived.Laws.CopyOwn
import Derived.Deep.OwnRows
import Derived.Laws.OwnMore
import Derived.Deep.QuietTactic
import Derived.Deep.RegionHeld3
namespace Go.Proofs.Ytcfcoepifhijcaa
open Go.RowKit

/-- A row of so many numbers. -/
def rowF (len : Nat) (f : Nat → Nat) : List Value := (List.range len).map fun j => Value.int .i64 (f j : Nat)
/-- One of them turned. -/
def upF (f : Nat → Nat) (k v : Nat) : Nat → Nat := fun j => if j = k then v else f j
theorem rowF_len (len : Nat) (f : Nat → Nat) : (rowF len f).length = len := by simp [rowF]
theorem rowF_get {len : Nat} (f : Nat → Nat) {j : Nat} (h : j < len) : (rowF len f)[j]? = some (.int .i64 (f j : Nat)) := by simp [rowF, h]
theorem rowF_set (len : Nat) (f : Nat → Nat) (k v : Nat) : (rowF len f).set k (.int .i64 (v : Nat)) = rowF len (upF f k v) := by
  apply List.ext_getElem?
  intro i
  simp only [rowF, List.getElem?_set, List.length_map, List.length_range, List.getElem?_map, upF]
  by_cases h : k = i
  · subst h
    by_cases hk : k < len
    · simp [hk]
    · simp [hk]
  · by_cases hi : i < len
    · simp [List.getElem?_range hi, if_neg h, if_neg (Ne.symm h)]
    · simp [show len ≤ i by omega, if_neg h]
theorem rowF_zero (len : Nat) : rowF len (fun _ => 0) = List.replicate len (.int .i64 0) := by
  apply List.ext_getElem?
  intro i
  by_cases hi : i < len
  · simp [rowF, hi]
  · simp [rowF, show len ≤ i by omega]
theorem upF_same (f : Nat → Nat) (k v : Nat) : upF f k v k = v := by simp [upF]
theorem upF_other (f : Nat → Nat) {k v j : Nat} (h : j ≠ k) : upF f k v j = f j := by simp [upF, h]

theorem wrap_next {k len : Nat} (h : k < len) (hm : len ≤ maxLen) : wrap64 ((k : Int) + 1) = ((k + 1 : Nat) : Int) := by
  unfold maxLen at hm
  rw [IntWalk.wrap64_in _ (by omega)]
  omega

/-- The clocks' cells: how many, what each shows, how often each ticked since the last Round. -/
def ckCells (n : Nat) (f g : Nat → Nat) : Array Value := (Value.int .i64 n :: (rowF 9 f ++ rowF 9 g)).toArray
/-- Block b is n clocks. -/
structure Ck (w : World) (b n : Nat) (f g : Nat → Nat) : Prop where
  blk : w.heap[b]? = some (.cells (ckCells n f g) 40 (0, 0))
  pos : 0 < n
  le : n ≤ 9

theorem ck_get (n : Nat) (f g : Nat → Nat) : (ckCells n f g)[0]? = some (.int .i64 n) ∧ (∀ j, j < 9 → (ckCells n f g)[1 + j]? = some (.int .i64 (f j : Nat))) ∧ (∀ j, j < 9 → (ckCells n f g)[10 + j]? = some (.int .i64 (g j : Nat))) := by
  refine ⟨rfl, fun j hj => ?_, fun j hj => ?_⟩
  · simp only [ckCells, List.getElem?_toArray]
    rw [Nat.add_comm 1 j, List.getElem?_cons_succ, List.getElem?_append_left (by rw [rowF_len]; exact hj), rowF_get f hj]
  · simp only [ckCells, List.getElem?_toArray]
    rw [show 10 + j = (9 + j) + 1 by omega, List.getElem?_cons_succ, List.getElem?_append_right (by rw [rowF_len]; omega), rowF_len, show 9 + j - 9 = j by omega, rowF_get g hj]
theorem ck_setF (n : Nat) (f g : Nat → Nat) {k : Nat} (hk : k < 9) (v : Nat) : (ckCells n f g).setIfInBounds (1 + k) (.int .i64 (v : Nat)) = ckCells n (upF f k v) g := by
  simp only [ckCells, List.setIfInBounds_toArray]
  rw [Nat.add_comm 1 k, List.set_cons_succ, List.set_append_left _ _ (by rw [rowF_len]; exact hk), rowF_set]
theorem ck_setG (n : Nat) (f g : Nat → Nat) {k : Nat} (_ : k < 9) (v : Nat) : (ckCells n f g).setIfInBounds (10 + k) (.int .i64 (v : Nat)) = ckCells n f (upF g k v) := by
  simp only [ckCells, List.setIfInBounds_toArray]
  rw [show 10 + k = (9 + k) + 1 by omega, List.set_cons_succ, List.set_append_right _ _ (by rw [rowF_len]; omega), rowF_len, show 9 + k - 9 = k by omega, rowF_set]

section
variable {w w' : World} {b n : Nat} {f g : Nat → Nat}
theorem Ck.lt (H : Ck w b n f g) : b < w.heap.size := lt_of_block H.blk
theorem Ck.num (H : Ck w b n f g) : w.cell? ⟨b, 0, none⟩ = some (.int .i64 n) ∧ w.frozen? ⟨b, 0, none⟩ = false := by
  have H' := H.blk
  exact ⟨by rw [cell_of_row _ _ _ _ _ _ H']; exact (ck_get n f g).1, by simp [World.frozen?, H']⟩
theorem Ck.show (H : Ck w b n f g) {j : Nat} (hj : j < 9) : w.cell? ⟨b, 1 + j, none⟩ = some (.int .i64 (f j : Nat)) ∧ w.frozen? ⟨b, 1 + j, none⟩ = false := by
  have H' := H.blk
  exact ⟨by rw [cell_of_row _ _ _ _ _ _ H']; exact (ck_get n f g).2.1 j hj, by simp [World.frozen?, H']⟩
theorem Ck.tick (H : Ck w b n f g) {j : Nat} (hj : j < 9) : w.cell? ⟨b, 10 + j, none⟩ = some (.int .i64 (g j : Nat)) ∧ w.frozen? ⟨b, 10 + j, none⟩ = false := by
  have H' := H.blk
  exact ⟨by rw [cell_of_row _ _ _ _ _ _ H']; exact (ck_get n f g).2.2 j hj, by simp [World.frozen?, H']⟩
theorem Ck.keep {S : Nat → Prop} (H : Ck w b n f g) (ho : Only S w w') (hs : ¬ S b) : Ck w' b n f g := ⟨(ho.block b H.lt hs).trans H.blk, H.pos, H.le⟩
theorem Ck.on (H : Ck w b n f g) (hb : Below w.heap.size w w') : Ck w' b n f g := H.keep (S := fun _ => False) (.of hb) (fun h => h)
theorem Ck.setF (H : Ck w b n f g) {k : Nat} (hk : k < 9) (v : Nat) : Ck (w.setCell ⟨b, 1 + k, none⟩ (.int .i64 (v : Nat))) b n (upF f k v) g :=
  ⟨by rw [heap_setCell_same _ _ _ _ _ _ H.blk, ck_setF n f g hk], H.pos, H.le⟩
theorem Ck.setG (H : Ck w b n f g) {k : Nat} (hk : k < 9) (v : Nat) : Ck (w.setCell ⟨b, 10 + k, none⟩ (.int .i64 (v : Nat))) b n f (upF g k v) :=
  ⟨by rw [heap_setCell_same _ _ _ _ _ _ H.blk, ck_setG n f g hk], H.pos, H.le⟩
theorem Ck.drewN (H : Ck w b n f g) (m : Nat) : Ck (w.drewN m) b n f g := H.keep (S := fun _ => False) (.drewN _ _ _) (fun h => h)
theorem Ck.drew (H : Ck w b n f g) : Ck w.drew b n f g := H.keep (S := fun _ => False) (Only.drew (.refl _ _)) (fun h => h)
end

set_option maxHeartbeats 400000 in
theorem has_yes {w : World} {b n : Nat} {f g : Nat → Nat} (H : Ck w b n f g) (k : Int) (h0 : 0 ≤ k) (h1 : k < (n : Int)) : Calls Try.prog 18 #[.pointer (some ⟨b, 0, none⟩), .int .i64 k] w fun e w' => e = .returned (.bool true) ∧ w = w' := by
  obtain ⟨c0, z0⟩ := H.num
  clear H
  go_enter Try.func18, Try.ntmps18
  go_wp2
  go_returns
  exact ⟨rfl, rfl⟩
set_option maxHeartbeats 400000 in
theorem has_no {w : World} {b n : Nat} {f g : Nat → Nat} (H : Ck w b n f g) (k : Int) (h : ¬ (0 ≤ k ∧ k < (n : Int))) : Calls Try.prog 18 #[.pointer (some ⟨b, 0, none⟩), .int .i64 k] w fun e w' => e = .returned (.bool false) ∧ w = w' := by
  obtain ⟨c0, z0⟩ := H.num
  clear H
  by_cases h0 : 0 ≤ k
  · have h1 : (n : Int) ≤ k := by omega
    clear h
    go_enter Try.func18, Try.ntmps18
    go_wp2
    go_returns
    exact ⟨ret_bool (by simp; omega), rfl⟩
  · clear h
    go_enter Try.func18, Try.ntmps18
    go_wp2
    go_returns
    exact ⟨rfl, rfl⟩

set_option maxHeartbeats 400000 in
theorem cknew_no (n : Int) (w : World) (hn : ¬ (1 ≤ n ∧ n ≤ 9)) : Calls Try.prog 8 #[.int .i64 n] w fun e w' => e = .returned (.tuple #[.pointer none, .int .i64 1]) ∧ w = w' := by
  by_cases h : n < 1
  · clear hn
    go_enter Try.func8, Try.ntmps8
    go_wp2
    go_returns
    exact ⟨rfl, rfl⟩
  · have h9 : 9 < n := by omega
    clear hn
    go_enter Try.func8, Try.ntmps8
    go_wp2
    go_returns
    exact ⟨rfl, rfl⟩
set_option maxHeartbeats 400000 in
theorem cknew_yes (n : Nat) (w : World) (h1 : 0 < n) (h9 : n ≤ 9) : Calls Try.prog 8 #[.int .i64 n] w fun e w' => e = .returned (.tuple #[.pointer (some ⟨w.heap.size, 0, none⟩), .int .i64 0]) ∧ Ck w' w.heap.size n (fun _ => 0) (fun _ => 0) ∧ Below w.heap.size w w' := by
  have a1 : ¬ (n : Int) < 1 := by omega
  have a9 : ¬ 9 < (n : Int) := by omega
  have hx := Lib.hid (And.intro h1 h9)
  clear h1 h9
  go_enter Try.func8, Try.ntmps8
  go_wp2
  go_returns
  exact ⟨rfl, ⟨heap_alloc_new w _, hx.out.1, hx.out.2⟩, (Below.refl _ _).alloc (Nat.le_refl _) _⟩

set_option maxRecDepth 100000 in
set_option maxHeartbeats 1000000 in
theorem tick_yes {w : World} {b n : Nat} {f g : Nat → Nat} (H : Ck w b n f g) (k : Nat) (hk : k < n) (hg : g k ≤ 1) (hf : f k < maxLen) :
    Calls Try.prog 9 #[.pointer (some ⟨b, 0, none⟩), .int .i64 k] w fun e w' => e = .returned (.bool true) ∧ Ck w' b n (upF f k (f k + 1)) (upF g k (g k + 1)) ∧ Only (· = b) w w' := by
  have HC := Lib.hid (has_yes H (k : Int) (by omega) (by omega))
  have k9 : k < 9 := by have := H.le; omega
  have k9' : (k : Int) < 9 := by omega
  obtain ⟨c1, z1⟩ := H.show k9
  obtain ⟨c2, z2⟩ := H.tick k9
  have hg' : ((g k : Nat) : Int) ≤ 1 := by omega
  have hf' : ((f k : Nat) : Int) < 9223372036854775807 := by unfold maxLen at hf; omega
  generalize g k = gk at *
  generalize f k = fk at *
  have k0 : (0 : Int) ≤ (k : Int) := by omega
  have s1 : IntKind.i64.wrap ((fk : Int) + 1) = (fk : Int) + 1 := by rw [IntKind.wrap_i64]; omega
  have s2 : IntKind.i64.wrap ((gk : Int) + 1) = (gk : Int) + 1 := by rw [IntKind.wrap_i64]; omega
  have HE := Lib.hid ((H.setG k9 (gk + 1)).setF k9 (fk + 1)).drew.drew
  have HO := Lib.hid (((Only.set b (10 + k) w (.int .i64 ((gk + 1 : Nat) : Int))).trans (Only.set b (1 + k) _ (.int .i64 ((fk + 1 : Nat) : Int)))).drew.drew)
  clear hg hf hk k9 H hf'
  go_enter Try.func9, Try.ntmps9
  go_wp2_with fail
  refine HC.out.mono ?_
  rintro e w1 ⟨rfl, rfl⟩
  go_wp2_with fail
  go_region
  go_wp2
  go_region
  go_wp2
  go_returns
  exact ⟨rfl, HE.out, HO.out⟩

set_option maxHeartbeats 400000 in
theorem tick_full {w : World} {b n : Nat} {f g : Nat → Nat} (H : Ck w b n f g) (k : Nat) (hk : k < n) (hg : 1 < g k) :
    Calls Try.prog 9 #[.pointer (some ⟨b, 0, none⟩), .int .i64 k] w fun e w' => e = .returned (.bool false) ∧ w = w' := by
  have HC := Lib.hid (has_yes H (k : Int) (by omega) (by omega))
  have k9 : k < 9 := by have := H.le; omega
  have k9' : (k : Int) < 9 := by omega
  obtain ⟨c2, z2⟩ := H.tick k9
  have hg' : 1 < ((g k : Nat) : Int) := by omega
  have k0 : (0 : Int) ≤ (k : Int) := by omega
  generalize g k = gk at *
  clear hg hk k9 H
  go_enter Try.func9, Try.ntmps9
  go_wp2_with fail
  refine HC.out.mono ?_
  rintro e w1 ⟨rfl, rfl⟩
  go_wp2
  go_returns
  exact ⟨rfl, rfl⟩
set_option maxHeartbeats 400000 in
theorem tick_no {w : World} {b n : Nat} {f g : Nat → Nat} (H : Ck w b n f g) (k : Int) (hk : ¬ (0 ≤ k ∧ k < (n : Int))) :
    Calls Try.prog 9 #[.pointer (some ⟨b, 0, none⟩), .int .i64 k] w fun e w' => e = .returned (.bool false) ∧ w = w' := by
  have HC := Lib.hid (has_no H k hk)
  clear H hk
  go_enter Try.func9, Try.ntmps9
  go_wp2_with fail
  refine HC.out.mono ?_
  rintro e w1 ⟨rfl, rfl⟩
  go_wp2
  go_returns
  exact ⟨rfl, rfl⟩
set_option maxHeartbeats 400000 in
theorem ckat_yes {w : World} {b n : Nat} {f g : Nat → Nat} (H : Ck w b n f g) (k : Nat) (hk : k < n) :
    Calls Try.prog 10 #[.pointer (some ⟨b, 0, none⟩), .int .i64 k] w fun e w' => e = .returned (.int .i64 (f k : Nat)) ∧ w = w' := by
  have HC := Lib.hid (has_yes H (k : Int) (by omega) (by omega))
  have k9 : k < 9 := by have := H.le; omega
  have k9' : (k : Int) < 9 := by omega
  obtain ⟨c2, z2⟩ := H.show k9
  have k0 : (0 : Int) ≤ (k : Int) := by omega
  generalize f k = fk at *
  clear hk k9 H
  go_enter Try.func10, Try.ntmps10
  go_wp2_with fail
  refine HC.out.mono ?_
  rintro e w1 ⟨rfl, rfl⟩
  go_wp2
  go_returns
  exact ⟨rfl, rfl⟩
set_option maxHeartbeats 400000 in
theorem ckat_no {w : World} {b n : Nat} {f g : Nat → Nat} (H : Ck w b n f g) (k : Int) (hk : ¬ (0 ≤ k ∧ k < (n : Int))) :
    Calls Try.prog 10 #[.pointer (some ⟨b, 0, none⟩), .int .i64 k] w fun e w' => e = .returned (.int .i64 0) ∧ w = w' := by
  have HC := Lib.hid (has_no H k hk)
  clear H hk
  go_enter Try.func10, Try.ntmps10
  go_wp2_with fail
  refine HC.out.mono ?_
  rintro e w1 ⟨rfl, rfl⟩
  go_wp2
  go_returns
  exact ⟨rfl, rfl⟩

/-! ### Round -/
set_option maxHeartbeats 1000000 in
theorem index_zero (w : World) (b off n c : Nat) (g : Nat → Nat) (hn : n ≤ 9) (hc : ∀ j, j < n → w.cell? ⟨b, off + j, none⟩ = some (.int .i64 (g j : Nat))) :
    Calls Try.prog 21 #[.slice (some ⟨b, off, none⟩) n c, .int .i64 0] w fun e w' => (∃ x : Int, e = .returned (.int .i64 x) ∧ decide (0 ≤ x) = decide (∃ j, j < n ∧ g j = 0)) ∧ w = w' := by
  have HC := Lib.hid hc
  clear hc
  go_enter Try.func21, Try.ntmps21
  go_wp2
  go_loopw [8] (fun s8 wr => ∃ k : Nat, k ≤ n ∧ s8 = .int .i64 k ∧ Hid (∀ j, j < k → g j ≠ 0) ∧ w = wr) (fun s8 _ => n - (intOf s8).toNat)
  case atStart => exact ⟨0, Nat.zero_le _, rfl, (fun j hj => absurd hj (by omega)), rfl⟩
  case round =>
    obtain ⟨k, hk, rfl, HK, rfl⟩ := hrel
    by_cases hlt : k < n
    · have c0 := HC.out k hlt
      have k1 : (k : Int) < (n : Int) := by omega
      have k0 : (0 : Int) ≤ (k : Int) := by omega
      cases hg : g k with
      | zero =>
        rw [hg] at c0
        have HX := Lib.hid (show ∃ j, j < n ∧ g j = 0 from ⟨k, hlt, hg⟩)
        clear hg
        go_wp2
        go_returns
        exact ⟨⟨_, rfl, by rw [decide_eq_true HX.out]; exact decide_eq_true k0⟩, rfl⟩
      | succ m =>
        rw [hg] at c0
        have HK2 : Hid (∀ j, j < k + 1 → g j ≠ 0) := fun j hj => by
          rcases (show j < k ∨ j = k by omega) with h | rfl
          · exact HK.out j h
          · omega
        have hm : ((0 : Int) == ((m + 1 : Nat) : Int)) = false := beq_eq_false_iff_ne.2 (by omega)
        clear hg
        go_wp2
        go_roundw
        case rel => exact ⟨k + 1, by omega, by go_num, HK2.out, by first | rfl | trivial⟩
        case measure => simp [intOf]; omega
    · have hle : (n : Int) ≤ (k : Int) := by omega
      obtain rfl : k = n := by omega
      have HX := Lib.hid (show ¬ ∃ j, j < k ∧ g j = 0 from fun ⟨j, hj, h⟩ => HK.out j hj h)
      go_wp2
      go_returns
      exact ⟨⟨_, rfl, by rw [decide_eq_false HX.out]; rfl⟩, rfl⟩
set_option maxHeartbeats 400000 in
theorem contains_zero (w : World) (b off n c : Nat) (g : Nat → Nat) (hn : n ≤ 9) (hc : ∀ j, j < n → w.cell? ⟨b, off + j, none⟩ = some (.int .i64 (g j : Nat))) :
    Calls Try.prog 19 #[.slice (some ⟨b, off, none⟩) n c, .int .i64 0] w fun e w' => e = .returned (.bool (decide (∃ j, j < n ∧ g j = 0))) ∧ w = w' := by
  have HC := Lib.hid (index_zero w b off n c g hn hc)
  clear hc
  go_enter Try.func19, Try.ntmps19
  go_wp2_with fail
  refine HC.out.mono ?_
  rintro e w1 ⟨⟨x, rfl, hx⟩, rfl⟩
  have HX := Lib.hid hx
  clear hx
  go_wp2
  go_returns
  exact ⟨ret_bool HX.out, rfl⟩
theorem cinfo_int : (Try.prog.info? 3).map (fun i => (i.zero, i.size, i.bytes)) = some (some (.int .i64 0), 1, 8) := by kernel_rfl
theorem zero9 : (Builtin.zeroCells (Value.int .i64 0).cells 9).toList = rowF 9 fun _ => 0 := by kernel_rfl
theorem ck_clear {w : World} {b n : Nat} {f g : Nat → Nat} (H : Ck w b n f g) :
    ∃ w', (∀ ty, (Builtin.clear_ #[22] ty #[.slice (some ⟨b, 10, none⟩) 9 9]).run Try.prog w = .ok (.tuple #[]) w') ∧ Ck w' b n f (fun _ => 0) ∧ Only (· = b) w w' := by
  have hu := Try.underlying22
  obtain ⟨zs, hzs⟩ : ∃ zs, zs = (Builtin.zeroCells (Value.int .i64 0).cells 9).toList := ⟨_, rfl⟩
  have hz9 : zs = rowF 9 fun _ => 0 := hzs.trans zero9
  have hst := run_storeCells_at Try.prog b 10 40 zs 0 _ w H.blk (by rw [hz9, rowF_len]; simp [ckCells, rowF_len]) (by
    intro u hu
    rw [hz9, rowF_zero] at hu
    rw [List.eq_of_mem_replicate hu]
    rfl)
  refine ⟨w.setRow b (ckCells n f fun _ => 0), fun ty => ?_, ⟨setRow_heap w b _ _ 40 _ H.blk, H.pos, H.le⟩, ⟨rfl, rfl, rfl, by simp, fun k _ hk => setRow_other w b k _ fun e => hk e⟩⟩
  have e1 : (List.take (10 + 0) (ckCells n f g).toList ++ zs ++ List.drop (10 + 0 + zs.length) (ckCells n f g).toList).toArray = ckCells n f fun _ => 0 := by
    rw [hz9, rowF_len]
    simp only [ckCells]
    rw [show (Value.int .i64 n :: (rowF 9 f ++ rowF 9 g)) = (Value.int .i64 n :: rowF 9 f) ++ rowF 9 g by rfl, List.take_left' (by rw [List.length_cons, rowF_len]), List.drop_of_length_le (by rw [List.length_append, List.length_cons, rowF_len, rowF_len]; decide)]
    simp
  rw [e1] at hst
  rw [hzs] at hst
  obtain ⟨i, hi, hz, h3, hby⟩ := info_parts cinfo_int
  simp [Builtin.clear_, run_underlying hu, zeroValue, typeInfo, hi, hz, hst]
set_option maxRecDepth 100000 in
set_option maxHeartbeats 1000000 in
theorem round_no {w : World} {b n : Nat} {f g : Nat → Nat} (H : Ck w b n f g) (hz : ∃ j, j < n ∧ g j = 0) :
    Calls Try.prog 11 #[.pointer (some ⟨b, 0, none⟩)] w fun e w' => e = .returned (.bool false) ∧ Ck w' b n f g ∧ Only (· = b) w w' := by
  have HQ : Hid (∀ m, Calls Try.prog 19 #[.slice (some ⟨b, 10, none⟩) n 9, .int .i64 0] (w.drewN m) fun e w' => e = .returned (.bool true) ∧ ∃ q, w' = (w.drewN m).drewN q) := fun m => by
    have hu := H.drewN m
    have := contains_zero (w.drewN m) b 10 n 9 g hu.le (fun j hj => (hu.tick (by have := hu.le; omega)).1)
    rw [decide_eq_true hz] at this
    exact this.mono fun e w' ⟨he, hw⟩ => ⟨he, 0, hw.symm⟩
  obtain ⟨c0, z0⟩ := H.num
  have n9 : (n : Int) ≤ 9 := by have := H.le; omega
  have n0 : (0 : Int) ≤ (n : Int) := by omega
  have HD := Lib.hid (fun m => H.drewN m)
  clear hz H
  go_enter Try.func11, Try.ntmps11
  go_wp2_with fail
  go_quiet (first
    | (go_at_call 19; exact Calls.quiet_of (HQ.out _)))
  go_wp2
  go_returns
  exact ⟨rfl, HD.out _, Only.drewN _ _ _⟩
set_option maxRecDepth 100000 in
set_option maxHeartbeats 1000000 in
theorem round_yes {w : World} {b n : Nat} {f g : Nat → Nat} (H : Ck w b n f g) (hz : ¬ ∃ j, j < n ∧ g j = 0) :
    Calls Try.prog 11 #[.pointer (some ⟨b, 0, none⟩)] w fun e w' => e = .returned (.bool true) ∧ Ck w' b n f (fun _ => 0) ∧ Only (· = b) w w' := by
  have HQ : Hid (∀ m, Calls Try.prog 19 #[.slice (some ⟨b, 10, none⟩) n 9, .int .i64 0] (w.drewN m) fun e w' => e = .returned (.bool false) ∧ ∃ q, w' = (w.drewN m).drewN q) := fun m => by
    have hu := H.drewN m
    have := contains_zero (w.drewN m) b 10 n 9 g hu.le (fun j hj => (hu.tick (by have := hu.le; omega)).1)
    rw [decide_eq_false hz] at this
    exact this.mono fun e w' ⟨he, hw⟩ => ⟨he, 0, hw.symm⟩
  obtain ⟨c0, z0⟩ := H.num
  have n9 : (n : Int) ≤ 9 := by have := H.le; omega
  have n0 : (0 : Int) ≤ (n : Int) := by omega
  have HD := Lib.hid (fun m => ck_clear (H.drewN m))
  clear hz H
  go_enter Try.func11, Try.ntmps11
  go_wp2_with fail
  go_quiet (first
    | (go_at_call 19; exact Calls.quiet_of (HQ.out _)))
  obtain ⟨w3, hcl, C3, O3⟩ := HD.out nq
  have HC3 := Lib.hid C3
  have HO3 := Lib.hid O3
  clear C3 O3 HD HQ
  go_wp2
  go_returns
  exact ⟨rfl, HC3.out, (Only.drewN _ _ _).trans HO3.out⟩
end Go.Proofs.Ytcfcoepifhijcaa
