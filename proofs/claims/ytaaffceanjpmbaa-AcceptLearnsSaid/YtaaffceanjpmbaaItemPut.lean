/-
  THE PROGRAM's PutReq: nothing of a request that may not be, else its bytes. No condition but lengths.
-/
import Derived.Test.YtaaffceanjpmbaaItemMayP
import Derived.Test.YtaaffceanjpmbaaItemMath
namespace Go.Proofs.Ytaaffceanjpmbaa
open Go.RowKit

theorem own_base {w : World} {base base' : Nat} {e : TypeId} {size : Nat} {v : Value} {n : Nat} {xs : List Value} (h : w.ownsRow base e size v n xs) (hb : base' ≤ base) : w.ownsRow base' e size v n xs := by
  refine ⟨h.1, ?_⟩
  rcases h.2 with h0 | ⟨r, cap, cur, rfl, hr, rest⟩
  · exact .inl h0
  · exact .inr ⟨r, cap, cur, rfl, by omega, rest⟩

set_option maxHeartbeats 400000 in
theorem putint_any (g n : Nat) (hn : n ≤ 9223372036854775807) (xs : List UInt8) (w : World) (hW : Wrt w g xs) (hlim : xs.length + 10 ≤ 140737488355328) :
    Calls Try.prog 84 #[.pointer (some ⟨g, 0, none⟩), .int .i64 n] w fun e w' => e = .returned (.tuple #[]) ∧ Wrt w' g (xs ++ Lib.uvarint n) ∧ Below g w w' := by
  have H := Lib.hid (wnum_any g n (by omega) xs w hW hlim)
  clear hW
  go_enter Try.func84, Try.ntmps84
  go_wp2_with fail
  refine H.out.mono ?_
  rintro e w1 ⟨rfl, h1, h2⟩
  go_wp2
  go_end0
  exact ⟨rfl, h1, h2⟩

end Go.Proofs.Ytaaffceanjpmbaa
