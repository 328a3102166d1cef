/-
  REQUESTS OF A ROW, as Since tells them; two rows of one list are the same to the reference's Reqs. No condition but that a list has at most a million requests.
-/
import Derived.Test.YtenjjgghoacboaaLnU
import Derived.BigQuiet
namespace Go.Proofs.Ytenjjgghoacboaa
open Go.RowKit

theorem own_cell {w : World} {n : Nat} {e : TypeId} {size : Nat} {v : Value} {len : Nat} {xs : List Value} (h : w.ownsRow n e size v len xs) (j : Nat) (x : Value) (hx : xs[j]? = some x) : ∃ b c, v = .slice (some ⟨b, 0, Option.none⟩) len c ∧ len ≤ c ∧ n ≤ b ∧ b < w.heap.size ∧ w.cell? ⟨b, j, Option.none⟩ = some x := by
  rcases h.2 with ⟨rfl, h0⟩ | ⟨g, cap, cur, rfl, hlow, hg, hle, _, _, ht⟩
  · have hl := h.1
    rw [h0, Nat.zero_mul] at hl
    rw [List.eq_nil_of_length_eq_zero hl] at hx
    simp at hx
  · refine ⟨g, cap, rfl, hle, hlow, lt_of_block hg, ?_⟩
    rw [cell_of_row _ _ _ _ _ _ hg, ← Array.getElem?_toList]
    rw [← ht, List.getElem?_take] at hx
    split at hx
    · exact hx
    · cases hx
/-- The requests of a row. -/
def AllAt (v : Value) (L : List ReqV) (u : World) : Prop := ∀ k, k < L.length → ∃ b c, v = .slice (some ⟨b, 0, none⟩) L.length c ∧ L.length ≤ c ∧ b < u.heap.size ∧ ReqCells u b (k * 6) (atL L k)
theorem AllAt.of {v : Value} {L : List ReqV} {B : Nat} {u : World} (h : u.ownsRow B 34 6 v L.length (reqCs L)) : AllAt v L u := by
  intro k hk
  have hg := reqCs_get L k hk
  obtain ⟨b, c, e, hc, _, hb, c0⟩ := own_cell h (k * 6) _ (by have := hg 0 (by omega); rw [Nat.add_zero] at this; exact this)
  have hj : ∀ j x, j < 6 → (reqC (atL L k))[j]? = some x → u.cell? ⟨b, k * 6 + j, none⟩ = some x := by
    intro j x hj hx
    obtain ⟨b', c', e', _, _, _, cj⟩ := own_cell h (k * 6 + j) x ((hg j hj).trans hx)
    rw [e] at e'
    simp only [Value.slice.injEq, Option.some.injEq, Addr.mk.injEq] at e'
    obtain ⟨⟨rfl, _, _⟩, _, rfl⟩ := e'
    exact cj
  exact ⟨b, c, e, hc, hb, hj 0 _ (by omega) rfl, hj 1 _ (by omega) rfl, hj 2 _ (by omega) rfl, hj 3 _ (by omega) rfl, hj 4 _ (by omega) rfl, hj 5 _ (by omega) rfl⟩
theorem AllAt.on {v : Value} {L : List ReqV} {u u' : World} (h : AllAt v L u) (hb : Below u.heap.size u u') : AllAt v L u' := fun k hk => by
  obtain ⟨b, c, e, hc, hl, a0, a1, a2, a3, a4, a5⟩ := h k hk
  have hx : ∀ o, u'.cell? ⟨b, o, none⟩ = u.cell? ⟨b, o, none⟩ := fun o => hb.cell (p := ⟨b, o, none⟩) hl
  exact ⟨b, c, e, hc, Nat.lt_of_lt_of_le hl hb.size, (hx _).trans a0, (hx _).trans a1, (hx _).trans a2, (hx _).trans a3, (hx _).trans a4, (hx _).trans a5⟩

set_option maxRecDepth 100000 in
set_option maxHeartbeats 2000000 in
theorem refreqs_same (a a2 : Option Addr) (N c c2 : Nat) (L : List ReqV) (w : World) (hN : N = L.length) (hN1 : N ≤ 1000000) (h1 : AllAt (.slice a N c) L w) (h2 : AllAt (.slice a2 N c2) L w) :
    Calls Try.prog 17 #[.slice a N c, .slice a2 N c2] w fun e w' => e = .returned (.bool true) ∧ Below w.heap.size w w' := by
  have H1 := Lib.hid h1
  have H2 := Lib.hid h2
  have HN := Lib.hid hN
  have HW : Hid (Below w.heap.size w w) := Below.refl _ _
  clear h1 h2 hN
  go_enter Try.func17, Try.ntmps17
  go_wp2
  go_loopw [5] (fun v wr => ∃ k : Nat, k ≤ N ∧ v = .int .i64 k ∧ Hid (Below w.heap.size w wr)) (fun v _ => N - (intOf v).toNat)
  case atStart => exact ⟨0, Nat.zero_le _, rfl, HW⟩
  case round =>
    clear HW
    obtain ⟨k, hk, rfl, HW⟩ := hrel
    by_cases hlt : k < N
    · have hkL : k < L.length := by rw [← HN.out]; exact hlt
      obtain ⟨b, d, hv, _, _, hc⟩ := H1.out.on HW.out k hkL
      obtain ⟨b2, d2, hv2, _, _, hc2⟩ := H2.out.on HW.out k hkL
      simp only [Value.slice.injEq] at hv hv2
      obtain ⟨rfl, -, rfl⟩ := hv
      obtain ⟨rfl, -, rfl⟩ := hv2
      have k0 : (0 : Int) ≤ (k : Int) := by omega
      have k1 : (k : Int) < (N : Int) := by omega
      obtain ⟨x0, x1, x2, x3, x4, x5⟩ := hc
      obtain ⟨y0, y1, y2, y3, y4, y5⟩ := hc2
      generalize atL L k = q at x0 x1 x2 x3 x4 x5 y0 y1 y2 y3 y4 y5
      obtain ⟨cl, sq, kd, id, mt, dt⟩ := q
      simp only at x0 x1 x2 x3 x4 x5 y0 y1 y2 y3 y4 y5
      clear hkL
      go_upto_region 6 with fail
      go_quiet (fail)
      go_wp2
      go_roundw
      case rel => exact ⟨k + 1, by omega, by go_num, HW.out.trans ⟨rfl, rfl, rfl, Nat.le_refl _, fun _ _ => rfl⟩⟩
      case measure => simp [intOf]; omega
    · obtain rfl : k = N := by omega
      go_wp2
      go_returns
      exact ⟨rfl, HW.out⟩
end Go.Proofs.Ytenjjgghoacboaa
