/-
  WHAT A READER DOES: isWrong, Num, Text, Yes, End behind any calls, each as a plain function of what is left. No condition but that lengths stay below 2^47.
-/
import Derived.Test.YtnliadnpoledmaaPackN
namespace Go.Proofs.Ytnliadnpoledmaa
open Go.RowKit

theorem cell_of_two0 {w : World} {b : Nat} {u v : Value} {t : TypeId} (h : w.heap[b]? = some (.cells #[u, v] t (0, 0))) : w.cell? ⟨b, 0, none⟩ = some u := by simp [World.cell?, h]
theorem cell_of_two1 {w : World} {b : Nat} {u v : Value} {t : TypeId} (h : w.heap[b]? = some (.cells #[u, v] t (0, 0))) : w.cell? ⟨b, 1, none⟩ = some v := by simp [World.cell?, h]
theorem free_of_two {w : World} {b : Nat} {u v : Value} {t : TypeId} (h : w.heap[b]? = some (.cells #[u, v] t (0, 0))) (o : Nat) : w.frozen? ⟨b, o, none⟩ = false := by simp [World.frozen?, h]
theorem two_setCell0 {w : World} {b : Nat} {u v x : Value} {t : TypeId} (h : w.heap[b]? = some (.cells #[u, v] t (0, 0))) : (w.setCell ⟨b, 0, none⟩ x).heap[b]? = some (.cells #[x, v] t (0, 0)) := by
  have hlt := lt_of_block h
  have h' : w.heap[b] = .cells #[u, v] t (0, 0) := by simpa [Array.getElem?_eq_getElem hlt] using h
  show (w.heap.modify b _)[b]? = _
  rw [Array.getElem?_eq_getElem (by simpa using hlt), Array.getElem_modify_self, h']
  rfl
theorem two_setCell1 {w : World} {b : Nat} {u v x : Value} {t : TypeId} (h : w.heap[b]? = some (.cells #[u, v] t (0, 0))) : (w.setCell ⟨b, 1, none⟩ x).heap[b]? = some (.cells #[u, x] t (0, 0)) := by
  have hlt := lt_of_block h
  have h' : w.heap[b] = .cells #[u, v] t (0, 0) := by simpa [Array.getElem?_eq_getElem hlt] using h
  show (w.heap.modify b _)[b]? = _
  rw [Array.getElem?_eq_getElem (by simpa using hlt), Array.getElem_modify_self, h']
  rfl

theorem grownBy_setCell (w : World) (b o : Nat) (x : Value) : w.grownBy (w.setCell ⟨b, o, none⟩ x) (some b) :=
  ⟨rfl, rfl, rfl, by simp [World.setCell], fun k _ hk => Below.heap_setCell _ _ _ _ (fun e => hk (by rw [e]))⟩

theorem grownBy_trans {a b c : World} {row : Option Nat} (h1 : a.grownBy b row) (h2 : b.grownBy c row) : a.grownBy c row :=
  ⟨h2.os.trans h1.os, h2.tape.trans h1.tape, h2.output.trans h1.output, Nat.le_trans h1.size h2.size, fun k hk hne => (h2.block k (Nat.lt_of_lt_of_le hk h1.size) hne).trans (h1.block k hk hne)⟩

theorem below_setCell (w : World) (h o : Nat) (x : Value) : Below h w (w.setCell ⟨h, o, none⟩ x) := (Below.refl h w).setCell (p := ⟨h, o, none⟩) (Nat.le_refl h) x

theorem grown_below {w w' : World} {h B : Nat} (hg : w.grownBy w' (some h)) (hB : B ≤ h) (hs : h < w.heap.size) : Below B w w' :=
  (Below.refl _ _).grown hg (by omega) (fun k hk => by simp at hk; omega)

/-- Left is cut at its front: what it holds then. -/
theorem byt_drop {w : World} {B b off cap k : Nat} {l : List UInt8} (h : Byt w B (.slice (some ⟨b, off, none⟩) l.length cap) l) (hk : k < cap) (hkl : k ≤ l.length) :
    Byt w B (.slice (some ⟨b, off + k, none⟩) (l.length - k) (cap - k)) (l.drop k) := by
  obtain ⟨ao, cap', he, h1, h2, h3, h4⟩ := h
  simp only [Value.slice.injEq] at he
  obtain ⟨rfl, _, rfl⟩ := he
  refine ⟨_, _, by rw [List.length_drop], by rw [List.length_drop]; omega, by omega, fun e => by simp at e, fun hd => ?_⟩
  have hl : l ≠ [] := fun e => hd (by rw [e]; simp)
  obtain ⟨b', off', he, hb, hc⟩ := h4 hl
  simp only [Option.some.injEq, Addr.mk.injEq, and_true] at he
  obtain ⟨rfl, rfl⟩ := he
  refine ⟨_, _, rfl, hb, fun j hj => ?_⟩
  rw [List.length_drop] at hj
  rw [Nat.add_assoc, hc (k + j) (by omega)]
  simp [List.getD]

theorem byt_end {w : World} {B : Nat} (ao : Option Addr) (cap : Nat) (h2 : cap ≤ maxLen) (h3 : ao = none → cap = 0) : Byt w B (.slice ao 0 cap) [] :=
  ⟨ao, cap, rfl, Nat.zero_le _, h2, h3, fun h => absurd rfl h⟩

theorem ret_u64 {a b : Int} (h : a = b) : Ending.returned (.int .u64 a) = .returned (.int .u64 b) := by rw [h]

theorem ret_bool {a b : Bool} (h : a = b) : Ending.returned (.bool a) = .returned (.bool b) := by rw [h]
theorem ret_num {a b : Int} (h : a = b) : Ending.returned (.int .i64 a) = .returned (.int .i64 b) := by rw [h]



theorem byt_take {w : World} {B b off cap k : Nat} {l : List UInt8} (h : Byt w B (.slice (some ⟨b, off, none⟩) l.length cap) l) (hkl : k ≤ l.length) :
    Byt w B (.slice (some ⟨b, off, none⟩) k cap) (l.take k) := by
  obtain ⟨ao, cap', he, h1, h2, h3, h4⟩ := h
  simp only [Value.slice.injEq] at he
  obtain ⟨rfl, _, rfl⟩ := he
  have hlen : (l.take k).length = k := by rw [List.length_take]; omega
  refine ⟨_, _, by rw [hlen], by rw [hlen]; omega, h2, fun e => by simp at e, fun hd => ?_⟩
  have hl : l ≠ [] := fun e => hd (by rw [e]; simp)
  obtain ⟨b', off', he, hb, hc⟩ := h4 hl
  simp only [Option.some.injEq, Addr.mk.injEq, and_true] at he
  obtain ⟨rfl, rfl⟩ := he
  refine ⟨_, _, rfl, hb, fun j hj => ?_⟩
  rw [hlen] at hj
  rw [hc j (by omega)]
  simp [List.getD, hj]

end Go.Proofs.Ytnliadnpoledmaa
