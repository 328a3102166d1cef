/-
  THE REFERENCE's PutReq: a request's bytes as a text. For a request that may be.
-/
import Derived.Test.YtenjjgghoacboaaItemA
import Derived.Test.YtenjjgghoacboaaPackRef
import Derived.Deep.RegionHeld3
namespace Go.Proofs.Ytenjjgghoacboaa
open Go.RowKit

/-- The request's block stands, and nothing below it has turned. -/
def PQ (w v : World) (cl sq kd id mt : Int) (dt : ByteArray) : Prop := ReqB v w.heap.size cl sq kd id mt dt ∧ Below w.heap.size w v
theorem PQ.step {w u v : World} {cl sq kd id mt : Int} {dt : ByteArray} (h : PQ w u cl sq kd id mt dt) (hb : Below u.heap.size u v) : PQ w v cl sq kd id mt dt :=
  ⟨h.1.keep hb h.1.lt, h.2.trans (hb.mono h.2.size)⟩

/-- A text of bytes. -/
def txt (l : List UInt8) : ByteArray := ⟨l.toArray⟩
theorem txt_add (a b : List UInt8) (h : a.length + b.length ≤ 9223372036854775807) (w : World) : (Op.stringOp .add (txt a) (txt b)).run Try.prog w = .ok (.string (txt (a ++ b))) w := by
  have h1 : (txt a).size = a.length := List.size_toArray
  have h2 : (txt b).size = b.length := List.size_toArray
  rw [run_string_add_sum w _ _ (by rw [h1, h2]; exact h)]
  have : txt a ++ txt b = txt (a ++ b) := by
    apply ByteArray.ext
    simp [txt, ByteArray.data_append]
  rw [this]
theorem u64_of_nat (n : Nat) (h : n < 18446744073709551616) : IntKind.u64.wrap (n : Int) = n := by
  simp [IntKind.wrap, IntKind.bits, IntKind.signed]; omega

end Go.Proofs.Ytenjjgghoacboaa
