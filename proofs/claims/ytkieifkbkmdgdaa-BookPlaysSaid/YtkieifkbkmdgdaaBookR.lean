/-
  THE REFERENCE's TABLE: two rows of ints; where a key is, or would be; Get. Of at most five thousand keys.
-/
import Derived.Test.YtkieifkbkmdgdaaBookL
import Derived.Test.YtkieifkbkmdgdaaItemRC
import Derived.StillTailTactics
namespace Go.Proofs.Ytkieifkbkmdgdaa
open Go.RowKit

def valsL (L : List (Int × Int)) : List Int := L.map (·.2)
/-- Block R is the reference's table of the list L; its blocks lie from n on. -/
def RB (n : Nat) (w : World) (R : Nat) (L : List (Int × Int)) : Prop :=
  ∃ vk vv, w.heap[R]? = some (.cells #[vk, vv] 28 (0, 0)) ∧ n ≤ R ∧ w.ownsRow n 3 1 vk L.length (intCells (keysL L)) ∧ w.ownsRow n 3 1 vv L.length (intCells (valsL L)) ∧ (vk.ownBlock = none ∨ vk.ownBlock ≠ vv.ownBlock)
/-- A block of the reference's, from n on. -/
def RS (n : Nat) (w : World) (x : Nat) : Prop := n ≤ x ∧ ∃ cs e, w.heap[x]? = some (.cells cs e (0, 0)) ∧ (e = 28 ∨ e = 3)

theorem row_of {w : World} {base : Nat} {v : Value} {n : Nat} {xs : List Value} (h : w.ownsRow base 3 1 v n xs) : ∃ a c, v = .slice a n c ∧ (n ≤ c) ∧ c ≤ maxLen ∧ (∀ g, v.ownBlock = some g → base ≤ g ∧ ∃ cs, w.heap[g]? = some (.cells cs 3 (0, 0))) := by
  rcases h.2 with ⟨rfl, rfl⟩ | ⟨g, cap, cur, rfl, hg, hh, h1, h2, _⟩
  · exact ⟨_, _, rfl, Nat.le_refl _, by unfold maxLen; omega, fun g hg => by simp [Value.ownBlock] at hg⟩
  · exact ⟨_, _, rfl, h1, h2, fun g' hg' => by
      obtain rfl : g = g' := by simpa [Value.ownBlock] using hg'
      exact ⟨hg, _, hh⟩⟩
theorem row_only {S : Nat → Prop} {w w' : World} {base : Nat} {v : Value} {n : Nat} {xs : List Value} (h : w.ownsRow base 3 1 v n xs) (ho : Only S w w') (hs : ∀ g, v.ownBlock = some g → ¬ S g) : w'.ownsRow base 3 1 v n xs := by
  refine ⟨h.1, ?_⟩
  rcases h.2 with h0 | ⟨g, cap, cur, rfl, hg, hh, hr⟩
  · exact .inl h0
  · exact .inr ⟨g, cap, cur, rfl, hg, (ho.block g (lt_of_block hh) (hs g (by simp [Value.ownBlock]))).trans hh, hr⟩
theorem RB.only {S : Nat → Prop} {n : Nat} {w w' : World} {R : Nat} {L : List (Int × Int)} (h : RB n w R L) (ho : Only S w w') (hs : ∀ x, S x → ¬ RS n w x) : RB n w' R L := by
  obtain ⟨vk, vv, h1, h2, h3, h4, h5⟩ := h
  obtain ⟨_, _, _, _, _, hk⟩ := row_of h3
  obtain ⟨_, _, _, _, _, hv⟩ := row_of h4
  refine ⟨vk, vv, (ho.block R (lt_of_block h1) fun hx => hs R hx ⟨h2, _, _, h1, .inl rfl⟩).trans h1, h2, row_only h3 ho fun g hg hx => ?_, row_only h4 ho fun g hg hx => ?_, h5⟩
  · obtain ⟨hb, cs, hh⟩ := hk g hg
    exact hs g hx ⟨hb, cs, _, hh, .inr rfl⟩
  · obtain ⟨hb, cs, hh⟩ := hv g hg
    exact hs g hx ⟨hb, cs, _, hh, .inr rfl⟩
theorem RB.on {n : Nat} {w w' : World} {R : Nat} {L : List (Int × Int)} (h : RB n w R L) (hb : Below w.heap.size w w') : RB n w' R L := h.only (Only.of (S := fun _ => False) hb) fun _ hx => hx.elim
/-- No block of the program's table is one of the reference's. -/
theorem Bk.kind {w : World} {B n : Nat} {T : BT} (h : Bk w B T) : ∀ x, blks B T x → ¬ RS n w x := by
  have ht : ∀ (T : BT), Tr w T → ∀ x, T.has x → ∃ cs, w.heap[x]? = some (.cells cs 59 (0, 0)) := by
    intro T
    induction T with
    | nil => intro _ x hx; exact hx.elim
    | node b k v l r ihl ihr =>
      rintro ⟨h0, hl, hr, _⟩ x (rfl | hx | hx)
      · exact ⟨_, h0⟩
      · exact ihl hl x hx
      · exact ihr hr x hx
  rintro x (rfl | hx) ⟨_, cs, e, he, hk⟩
  · have := (show w.heap[x]? = _ from h.1).symm.trans he
    simp at this
    rcases hk with rfl | rfl <;> simp at this
  · obtain ⟨cs', hc⟩ := ht T h.2.1 x hx
    have := hc.symm.trans he
    simp at this
    rcases hk with rfl | rfl <;> simp at this
theorem Bk.ref {w w' : World} {B n : Nat} {T : BT} (h : Bk w B T) (ho : Only (RS n w) w w') : Bk w' B T := h.keep ho fun x hx => h.kind x hx

/-- The row's cells, for the walk. -/
theorem row_at {w : World} {base : Nat} {a : Option Addr} {n c : Nat} {X : List Int} (h : w.ownsRow base 3 1 (.slice a n c) n (intCells X)) (hn : 0 < n) :
    ∃ g, a = some ⟨g, 0, none⟩ ∧ base ≤ g ∧ g < w.heap.size ∧ n ≤ c ∧ ∀ j, j < n → w.cell? ⟨g, j, none⟩ = some (.int .i64 (X.getD j 0)) ∧ w.frozen? ⟨g, j, none⟩ = false := by
  have hI := ints_own h (Nat.le_refl _)
  obtain ⟨b, off, hv, hb, hc⟩ := ints_at6 hI hn
  rcases h.2 with ⟨hv', _⟩ | ⟨g, cap, cur, hv', hg, hh, h1, _⟩
  · cases hv'; omega
  · cases hv'
    cases hv
    refine ⟨b, rfl, hg, lt_of_block hh, h1, fun j hj => ⟨by simpa using hc j hj, by simp [World.frozen?, hh]⟩⟩

/-- Where a key is, or would be. -/
def AtR (key : Int) (X : List Int) (i : Nat) : Prop := i ≤ X.length ∧ (∀ j, j < i → X.getD j 0 < key) ∧ (i < X.length → key ≤ X.getD i 0)

set_option maxHeartbeats 2000000 in
theorem at_any (n R : Nat) (L : List (Int × Int)) (key : Int) (w : World) (h : RB n w R L) (hl : L.length ≤ 5000) :
    Calls Try.prog 25 #[.pointer (some ⟨R, 0, none⟩), .int .i64 key] w fun e w' => (∃ i, e = .returned (.int .i64 (i : Nat)) ∧ AtR key (keysL L) i) ∧ ∃ q, w' = w.drewN q := by
  obtain ⟨vk, vv, h1, h2, h3, h4, h5⟩ := h
  obtain ⟨a, c, rfl, _⟩ := row_of h3
  have c0 : w.cell? ⟨R, 0, none⟩ = some (.slice a L.length c) := by simp [World.cell?, h1]
  obtain ⟨X, hX⟩ : ∃ X, X = keysL L := ⟨_, rfl⟩
  obtain ⟨m, hm⟩ : ∃ m, m = L.length := ⟨_, rfl⟩
  have hXm : X.length = m := by rw [hX, hm]; simp [keysL]
  rw [← hm] at h3 c0 hl
  rw [← hX] at h3 ⊢
  have HX := Lib.hid hXm
  have H3 := Lib.hid h3
  clear hX hm hXm h1 h2 h3 h4 h5
  go_enter Try.func25, Try.ntmps25
  go_wp2_with fail
  go_loopw [5] (fun vi wr => ∃ i : Nat, i ≤ m ∧ vi = .int .i64 i ∧ Hid (∀ j, j < i → X.getD j 0 < key) ∧ ∃ q, wr = w.drewN q) (fun vi _ => 10000 - (intOf vi).toNat)
  case atStart => exact ⟨0, by omega, rfl, (fun j hj => by omega), 0, rfl⟩
  case round =>
    obtain ⟨i, hi, rfl, HJ, q, hw⟩ := hrel
    have HW := Lib.hid hw
    have d0 : wr.cell? ⟨R, 0, none⟩ = some (.slice a m c) := by rw [hw]; exact c0
    by_cases hlt : i < m
    · obtain ⟨g, rfl, _, _, hmc, hc⟩ := row_at H3.out (by omega)
      obtain ⟨x, hx⟩ : ∃ x, x = X.getD i 0 := ⟨_, rfl⟩
      have cx : wr.cell? ⟨g, i, none⟩ = some (.int .i64 x) := by rw [hx, hw]; exact (hc i hlt).1
      have HXX := Lib.hid hx
      have i0 : (0 : Int) ≤ (i : Int) := by omega
      have i1 : (i : Int) < (m : Int) := by omega
      clear hx hc hw c0
      by_cases hk : x < key
      · have HK := Lib.hid hk
        go_wp2_with fail
        go_roundw
        case rel =>
          refine ⟨i + 1, by omega, by go_num, fun j hj => ?_, q, HW.out⟩
          rcases Nat.lt_or_ge j i with h | h
          · exact HJ.out j h
          · obtain rfl : j = i := by omega
            rw [← HXX.out]; exact HK.out
        case measure => simp [intOf]; omega
      · have hk' : key ≤ x := by omega
        clear hk
        go_wp2_with fail
        go_returns
        exact ⟨⟨i, rfl, by rw [HX.out]; exact hi, HJ.out, fun _ => by rw [← HXX.out]; exact hk'⟩, q, HW.out⟩
    · have him : (m : Int) ≤ (i : Int) := by omega
      clear hw
      go_wp2_with fail
      go_returns
      exact ⟨⟨i, rfl, by rw [HX.out]; exact hi, HJ.out, fun h => by rw [HX.out] at h; omega⟩, q, HW.out⟩
end Go.Proofs.Ytkieifkbkmdgdaa
