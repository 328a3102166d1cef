/-
  FOR THE LAWS ON A STORE: its bytes as a string. No condition.
-/
import Derived.Test.YticokpaegadbbaaStoreC
import Derived.Test.YticokpaegadbbaaStoreF
import Derived.Test.YticokpaegadbbaaStoreR
namespace Go.Proofs.Yticokpaegadbbaa
open Go.RowKit

def stoS (s : StoV) : ByteArray := ⟨(stoB s).toArray⟩
/-- The call answers bytes that are this string. -/
def BytesStr (S : ByteArray) (w : World) (e : Ending) (w' : World) : Prop :=
  ∃ ao n cap, e = .returned (.slice ao n cap) ∧ (∀ u, Below w'.heap.size w' u → (convert 46 9 (.slice ao n cap)).run Try.prog u = .ok (.string S) u) ∧ Below w.heap.size w w'
theorem BytesAre.str {bs : List UInt8} {w : World} {e : Ending} {w' : World} (h : BytesAre bs w e w') : BytesStr ⟨bs.toArray⟩ w e w' := by
  obtain ⟨v, rfl, ho, hb⟩ := h
  have hy := byt_own ho (Nat.le_refl _)
  obtain ⟨a, c, rfl⟩ := own_shape ho
  exact ⟨a, _, c, rfl, fun u hu => run_conv_byt (hy.keep hu), hb⟩
theorem sbytes_s (b : Nat) (s : StoV) (N : Nat) (w : World) (h : Sto layP w b s) (hf : Fit s N) (hN : N ≤ 1000000) : Calls Try.prog 20 #[.pointer (some ⟨b, 0, none⟩)] w (BytesStr (stoS s) w) :=
  (sbytes_r b s N w h hf hN).mono fun _ _ h => h.str

end Go.Proofs.Yticokpaegadbbaa
