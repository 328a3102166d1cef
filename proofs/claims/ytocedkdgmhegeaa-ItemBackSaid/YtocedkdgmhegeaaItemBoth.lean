/-
  THE PROGRAM's AND THE REFERENCE's GetReq ANSWER ALIKE. For at most 1000 bytes.
-/
import Derived.Test.YtocedkdgmhegeaaItemRGet
import Derived.Test.YtocedkdgmhegeaaItemArgs
namespace Go.Proofs.Ytocedkdgmhegeaa
open Go.RowKit

theorem both_get (l : List UInt8) (hlim : l.length ≤ 1000) : ∃ (a1 a2 a3 a4 a5 : Int) (S : ByteArray) (err : Int),
    (∀ v u, Byt u u.heap.size v l → Calls Try.prog 17 #[v] u fun e w' => e = .returned (.tuple #[.agg #[.int .i64 a1, .int .i64 a2, .int .i64 a3, .int .i64 a4, .int .i64 a5, .string S], .int .i64 err]) ∧ Below u.heap.size u w') ∧
    (∀ u, Calls Try.prog 18 #[.string (txt l)] u fun e w' => e = .returned (.tuple #[.agg #[.int .i64 a1, .int .i64 a2, .int .i64 a3, .int .i64 a4, .int .i64 a5, .string S], .int .i64 err]) ∧ Below u.heap.size u w') := by
  by_cases hg : good progB l
  · have h2 := good_same refB_wide hg
    refine ⟨(got progB l).cl, (got progB l).sq, (got progB l).kd, (got progB l).id, (got progB l).mt, ⟨(got progB l).s.toArray⟩, 0, fun v u hb => getreq_good v _ l u hb (Nat.le_refl _) (by omega) hg, fun u => ?_⟩
    have := refgetreq_good l u hlim h2.1
    rw [h2.2] at this
    exact this
  · have h2 : ¬ good refB l := fun h => hg (good_same progB_wide h).1
    exact ⟨0, 0, 0, 0, 0, ⟨#[]⟩, 2, fun v u hb => getreq_bad v _ l u hb (Nat.le_refl _) (by omega) hg, fun u => refgetreq_bad l u hlim h2⟩

theorem both_get2 (l : List UInt8) (hlim : l.length ≤ 1000) : ∃ (g : Got) (err : Int), ((err = 2 ∧ g = ⟨0, 0, 0, 0, 0, []⟩) ∨ (err = 0 ∧ g.req.may ∧ l = g.bytes)) ∧
    (∀ v u, Byt u u.heap.size v l → Calls Try.prog 17 #[v] u fun e w' => e = .returned (.tuple #[g.val, .int .i64 err]) ∧ Below u.heap.size u w') ∧
    (∀ u, Calls Try.prog 18 #[.string (txt l)] u fun e w' => e = .returned (.tuple #[g.val, .int .i64 err]) ∧ Below u.heap.size u w') := by
  by_cases hg : good progB l
  · have h2 := good_same refB_wide hg
    refine ⟨got progB l, 0, .inr ⟨rfl, hg.2, good_got hg⟩, fun v u hb => getreq_good v _ l u hb (Nat.le_refl _) (by omega) hg, fun u => ?_⟩
    have := refgetreq_good l u hlim h2.1
    rw [h2.2] at this
    exact this
  · have h2 : ¬ good refB l := fun h => hg (good_same progB_wide h).1
    exact ⟨⟨0, 0, 0, 0, 0, []⟩, 2, .inl ⟨rfl, rfl⟩, fun v u hb => getreq_bad v _ l u hb (Nat.le_refl _) (by omega) hg, fun u => refgetreq_bad l u hlim h2⟩

theorem byt_slice {w : World} {B : Nat} {v : Value} {l : List UInt8} (h : Byt w B v l) : ∃ a c, v = .slice a l.length c := by
  obtain ⟨ao, cap, rfl, _⟩ := h
  exact ⟨_, _, rfl⟩

end Go.Proofs.Ytocedkdgmhegeaa
