/-
  A BALLOT's BYTES: Put, Get, and the reference's Put. For a ballot whose numbers are none below nought.
-/
import Derived.Test.YtiidmiioegdfaaaBallotV
import Derived.Test.YtiidmiioegdfaaaPackK
import Derived.Test.YtiidmiioegdfaaaItemA
import Derived.Test.YtiidmiioegdfaaaItemRPut
namespace Go.Proofs.Ytiidmiioegdfaaa
open Go.RowKit

/-- A ballot's bytes. -/
def balBytes (r n : Nat) : List UInt8 := Lib.uvarint r ++ Lib.uvarint n
theorem balBytes_len {r n : Nat} (hr : r < 18446744073709551616) (hn : n < 18446744073709551616) : (balBytes r n).length ≤ 20 := by
  have h1 := Lib.uvarint_length64 hr
  have h2 := Lib.uvarint_length64 hn
  rw [balBytes, List.length_append]
  omega

/-- What a reader finds where a ballot is looked for. -/
def getBal (st : Option (List UInt8)) : Nat × Nat × Option (List UInt8) := ((rNum 1099511627776 st).1, (rNum 4 (rNum 1099511627776 st).2).1, (rNum 4 (rNum 1099511627776 st).2).2)

theorem num_put (M v : Nat) (hv : v < 18446744073709551616) (h : v ≤ M) (t : List UInt8) : rNum M (some (Lib.uvarint v ++ t)) = (v, some t) := by
  simp only [rNum, numAt_uvarint v hv t]
  simp [h]
theorem getBal_put (r n : Nat) (hr : r ≤ 1099511627776) (hn : n ≤ 4) (t : List UInt8) : getBal (some (balBytes r n ++ t)) = (r, n, some t) := by
  unfold getBal balBytes
  rw [List.append_assoc, num_put _ r (by omega) hr]
  simp only
  rw [num_put _ n (by omega) hn]

theorem BalB.keepU {w w' : World} {b g : Nat} {r n : Int} (h : BalB w b r n) (hk : KeepU g w w') (hg : b ≠ g) : BalB w' b r n :=
  hk.same b _ h hg (fun cs fr e => by simp at e)

end Go.Proofs.Ytiidmiioegdfaaa
