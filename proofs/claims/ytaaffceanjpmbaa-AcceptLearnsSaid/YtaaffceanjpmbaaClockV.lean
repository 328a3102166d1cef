/-
  CLOCKS IN MEMORY: their block; New, has, Tick, At. No condition but that a clock shows less than 2^62.
-/
import Derived.Test.YtaaffceanjpmbaaOnly
import Derived.Test.YtaaffceanjpmbaaItemCV
import Derived.Test.YtaaffceanjpmbaaHeld
import Derived.BigQuiet
import Derived.Laws.CopyOwn
import Derived.Deep.OwnRows
import Derived.Laws.OwnMore
import Derived.Deep.QuietTactic
import Derived.Deep.RegionHeld3
namespace Go.Proofs.Ytaaffceanjpmbaa
open Go.RowKit

/-- A row of so many numbers. -/
def rowF (len : Nat) (f : Nat → Nat) : List Value := (List.range len).map fun j => Value.int .i64 (f j : Nat)
/-- One of them turned. -/
def upF (f : Nat → Nat) (k v : Nat) : Nat → Nat := fun j => if j = k then v else f j
theorem rowF_len (len : Nat) (f : Nat → Nat) : (rowF len f).length = len := by simp [rowF]
theorem rowF_get {len : Nat} (f : Nat → Nat) {j : Nat} (h : j < len) : (rowF len f)[j]? = some (.int .i64 (f j : Nat)) := by simp [rowF, h]
theorem rowF_set (len : Nat) (f : Nat → Nat) (k v : Nat) : (rowF len f).set k (.int .i64 (v : Nat)) = rowF len (upF f k v) := by
  apply List.ext_getElem?
  intro i
  simp only [rowF, List.getElem?_set, List.length_map, List.length_range, List.getElem?_map, upF]
  by_cases h : k = i
  · subst h
    by_cases hk : k < len
    · simp [hk]
    · simp [hk]
  · by_cases hi : i < len
    · simp [List.getElem?_range hi, if_neg h, if_neg (Ne.symm h)]
    · simp [show len ≤ i by omega, if_neg h]
theorem rowF_zero (len : Nat) : rowF len (fun _ => 0) = List.replicate len (.int .i64 0) := by
  apply List.ext_getElem?
  intro i
  by_cases hi : i < len
  · simp [rowF, hi]
  · simp [rowF, show len ≤ i by omega]
theorem upF_same (f : Nat → Nat) (k v : Nat) : upF f k v k = v := by simp [upF]
theorem upF_other (f : Nat → Nat) {k v j : Nat} (h : j ≠ k) : upF f k v j = f j := by simp [upF, h]

theorem wrap_next {k len : Nat} (h : k < len) (hm : len ≤ maxLen) : wrap64 ((k : Int) + 1) = ((k + 1 : Nat) : Int) := by
  unfold maxLen at hm
  rw [IntWalk.wrap64_in _ (by omega)]
  omega

/-- The clocks' cells: how many, what each shows, how often each ticked since the last Round. -/
def ckCells (n : Nat) (f g : Nat → Nat) : Array Value := (Value.int .i64 n :: (rowF 9 f ++ rowF 9 g)).toArray
theorem ck_get (n : Nat) (f g : Nat → Nat) : (ckCells n f g)[0]? = some (.int .i64 n) ∧ (∀ j, j < 9 → (ckCells n f g)[1 + j]? = some (.int .i64 (f j : Nat))) ∧ (∀ j, j < 9 → (ckCells n f g)[10 + j]? = some (.int .i64 (g j : Nat))) := by
  refine ⟨rfl, fun j hj => ?_, fun j hj => ?_⟩
  · simp only [ckCells, List.getElem?_toArray]
    rw [Nat.add_comm 1 j, List.getElem?_cons_succ, List.getElem?_append_left (by rw [rowF_len]; exact hj), rowF_get f hj]
  · simp only [ckCells, List.getElem?_toArray]
    rw [show 10 + j = (9 + j) + 1 by omega, List.getElem?_cons_succ, List.getElem?_append_right (by rw [rowF_len]; omega), rowF_len, show 9 + j - 9 = j by omega, rowF_get g hj]
theorem ck_setF (n : Nat) (f g : Nat → Nat) {k : Nat} (hk : k < 9) (v : Nat) : (ckCells n f g).setIfInBounds (1 + k) (.int .i64 (v : Nat)) = ckCells n (upF f k v) g := by
  simp only [ckCells, List.setIfInBounds_toArray]
  rw [Nat.add_comm 1 k, List.set_cons_succ, List.set_append_left _ _ (by rw [rowF_len]; exact hk), rowF_set]
theorem ck_setG (n : Nat) (f g : Nat → Nat) {k : Nat} (_ : k < 9) (v : Nat) : (ckCells n f g).setIfInBounds (10 + k) (.int .i64 (v : Nat)) = ckCells n f (upF g k v) := by
  simp only [ckCells, List.setIfInBounds_toArray]
  rw [show 10 + k = (9 + k) + 1 by omega, List.set_cons_succ, List.set_append_right _ _ (by rw [rowF_len]; omega), rowF_len, show 9 + k - 9 = k by omega, rowF_set]

section
variable {w w' : World} {b n : Nat} {f g : Nat → Nat}
end

/-! ### Round -/
set_option maxHeartbeats 1000000 in
theorem index_zero (w : World) (b off n c : Nat) (g : Nat → Nat) (hn : n ≤ 9) (hc : ∀ j, j < n → w.cell? ⟨b, off + j, none⟩ = some (.int .i64 (g j : Nat))) :
    Calls Try.prog 80 #[.slice (some ⟨b, off, none⟩) n c, .int .i64 0] w fun e w' => (∃ x : Int, e = .returned (.int .i64 x) ∧ decide (0 ≤ x) = decide (∃ j, j < n ∧ g j = 0)) ∧ w = w' := by
  have HC := Lib.hid hc
  clear hc
  go_enter Try.func80, Try.ntmps80
  go_wp2
  go_loopw [8] (fun s8 wr => ∃ k : Nat, k ≤ n ∧ s8 = .int .i64 k ∧ Hid (∀ j, j < k → g j ≠ 0) ∧ w = wr) (fun s8 _ => n - (intOf s8).toNat)
  case atStart => exact ⟨0, Nat.zero_le _, rfl, (fun j hj => absurd hj (by omega)), rfl⟩
  case round =>
    obtain ⟨k, hk, rfl, HK, rfl⟩ := hrel
    by_cases hlt : k < n
    · have c0 := HC.out k hlt
      have k1 : (k : Int) < (n : Int) := by omega
      have k0 : (0 : Int) ≤ (k : Int) := by omega
      cases hg : g k with
      | zero =>
        rw [hg] at c0
        have HX := Lib.hid (show ∃ j, j < n ∧ g j = 0 from ⟨k, hlt, hg⟩)
        clear hg
        go_wp2
        go_returns
        exact ⟨⟨_, rfl, by rw [decide_eq_true HX.out]; exact decide_eq_true k0⟩, rfl⟩
      | succ m =>
        rw [hg] at c0
        have HK2 : Hid (∀ j, j < k + 1 → g j ≠ 0) := fun j hj => by
          rcases (show j < k ∨ j = k by omega) with h | rfl
          · exact HK.out j h
          · omega
        have hm : ((0 : Int) == ((m + 1 : Nat) : Int)) = false := beq_eq_false_iff_ne.2 (by omega)
        clear hg
        go_wp2
        go_roundw
        case rel => exact ⟨k + 1, by omega, by go_num, HK2.out, by first | rfl | trivial⟩
        case measure => simp [intOf]; omega
    · have hle : (n : Int) ≤ (k : Int) := by omega
      obtain rfl : k = n := by omega
      have HX := Lib.hid (show ¬ ∃ j, j < k ∧ g j = 0 from fun ⟨j, hj, h⟩ => HK.out j hj h)
      go_wp2
      go_returns
      exact ⟨⟨_, rfl, by rw [decide_eq_false HX.out]; rfl⟩, rfl⟩
theorem cinfo_int : (Try.prog.info? 3).map (fun i => (i.zero, i.size, i.bytes)) = some (some (.int .i64 0), 1, 8) := by kernel_rfl
theorem zero9 : (Builtin.zeroCells (Value.int .i64 0).cells 9).toList = rowF 9 fun _ => 0 := by kernel_rfl
end Go.Proofs.Ytaaffceanjpmbaa
