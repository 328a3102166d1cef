/-
  WHICH WAY A REQUEST GOES, and what is made and told then; plain. No condition.
-/
import Derived.Test.YtenjjgghoacboaaChartR2
namespace Go.Proofs.Ytenjjgghoacboaa
open Go.RowKit

theorem rd_code (L : List VerV) : (rdV L L.length).code = if L.length = 0 then 2 else if (at' L (L.length - 1)).gone = true then 3 else 1 := by
  unfold rdV
  by_cases h : L.length = 0
  · rw [if_pos h, if_pos (by omega)]
  · rw [if_neg h, if_neg (by omega), show ((L.length : Int) - 1).toNat = L.length - 1 by omega]
    split <;> rfl
theorem verd_if (L : List VerV) (kd mt quota C : Int) (hC : (if L.length = 0 then (2 : Int) else if (at' L (L.length - 1)).gone = true then 3 else 1) = C) :
    verdV L kd mt quota = if kd = 1 ∧ C = 1 then 4 else if kd ≠ 1 ∧ C ≠ 1 then C else restV L.length mt quota := by
  unfold verdV restV
  rw [rd_code, hC]

theorem do_none (L : List VerV) (kd mt : Int) (dt : ByteArray) (quota x : Int) (hw : wrV kd = true) (hx : verdV L kd mt quota = x) (hne : x ≠ 1) : doL L kd mt dt quota = L ∧ doR L kd mt quota = ⟨x, L.length, ⟨#[]⟩, []⟩ := by
  unfold doL doR
  rw [hx, if_neg (fun h => hne h.2), if_pos hw, if_neg hne]
  exact ⟨rfl, rfl⟩
theorem do_one (L : List VerV) (kd mt : Int) (dt : ByteArray) (quota : Int) (hw : wrV kd = true) (hx : verdV L kd mt quota = 1) : doL L kd mt dt quota = L ++ [makeV kd dt] ∧ doR L kd mt quota = ⟨1, L.length + 1, ⟨#[]⟩, []⟩ := by
  unfold doL doR
  rw [hx, if_pos ⟨hw, rfl⟩, if_pos hw, if_pos rfl]
  exact ⟨rfl, rfl⟩

end Go.Proofs.Ytenjjgghoacboaa
