/-
  WHEN TO ASK AGAIN: bounds kept by a closure; Wait, Due, who may be asked, Target, by contract. No condition but that numbers are of their kind.
-/
import Derived.Test.YtpcbpimlakehcaaClockV
namespace Go.Proofs.Ytpcbpimlakehcaa
open Go.RowKit

set_option maxHeartbeats 400000 in
theorem rewithin_any (a b : Int) (w : World) : Calls Try.prog 63 #[.int .i64 a, .int .i64 b] w fun e w' => e = .returned (.func (.func 82) #[] #[.pointer (some ⟨w.heap.size, 0, none⟩), .pointer (some ⟨w.heap.size + 1, 0, none⟩)]) ∧ w' = (w.alloc (.cells #[.int .i64 a] 3)).alloc (.cells #[.int .i64 b] 3) := by
  go_enter Try.func63, Try.ntmps63
  go_wp2
  go_ret
  exact ⟨rfl, rfl⟩
/-- Of n the nearest one from a to b. -/
def nearV (a b n : Int) : Int := if n < a then a else if b < n then (if a < b then b else a) else n
set_option maxHeartbeats 400000 in
theorem rewithin1_r (n a b : Int) (p q : Addr) (w : World) (hp : w.cell? p = some (.int .i64 a)) (hq : w.cell? q = some (.int .i64 b)) (M : Int) (hM : Hid (nearV a b n = M)) (hab : Hid (a ≤ b)) :
    Calls Try.prog 82 #[.int .i64 n, .pointer (some p), .pointer (some q)] w fun e w' => e = .returned (.int .i64 M) ∧ w = w' := by
  obtain ⟨pb, po, ps⟩ := p
  obtain ⟨qb, qo, qs⟩ := q
  go_enter Try.func82, Try.ntmps82
  go_wp2
  all_goals
    go_returns
    refine ⟨congrArg (fun z => Ending.returned (.int .i64 z)) ?_, rfl⟩
    have h2 := hab.out
    rw [← hM.out]
    rename_i x
    unfold nearV
    split at x <;> (repeat' split) <;> omega
/-- The two boxes of the closure's bounds. -/
structure Bnd (u : World) (r : Nat) (a b : Int) : Prop where
  lo : u.heap[r]? = some (.cells #[.int .i64 a] 3 (0, 0))
  hi : u.heap[r + 1]? = some (.cells #[.int .i64 b] 3 (0, 0))
  le : a ≤ b
theorem Bnd.new (w : World) (a b : Int) (h : a ≤ b) : Bnd ((w.alloc (.cells #[.int .i64 a] 3)).alloc (.cells #[.int .i64 b] 3)) w.heap.size a b := by
  have h1 := heap_alloc_new w (.cells #[.int .i64 a] 3)
  have h2 := heap_alloc_new (w.alloc (.cells #[.int .i64 a] 3)) (.cells #[.int .i64 b] 3)
  rw [World.size_alloc] at h2
  exact ⟨(((Below.refl _ _).alloc (Nat.le_refl _) _).block _ (by simp)).trans h1, h2, h⟩
theorem Bnd.on {u u' : World} {r : Nat} {a b : Int} (h : Bnd u r a b) (hb : Below u.heap.size u u') : Bnd u' r a b := ⟨(hb.block _ (lt_of_block h.lo)).trans h.lo, (hb.block _ (lt_of_block h.hi)).trans h.hi, h.le⟩
theorem Bnd.call {u : World} {r : Nat} {a b : Int} (h : Bnd u r a b) (n M : Int) (hM : nearV a b n = M) :
    Calls Try.prog 82 #[.int .i64 n, .pointer (some ⟨r, 0, none⟩), .pointer (some ⟨r + 1, 0, none⟩)] u fun e w' => e = .returned (.int .i64 M) ∧ u = w' :=
  rewithin1_r n a b _ _ u (by simp [World.cell?, h.lo]) (by simp [World.cell?, h.hi]) M hM h.le

def waitV (t : Int) : Int := 8 * nearV 0 4 t
set_option maxHeartbeats 400000 in
theorem rewait_r (t : Int) (w : World) (M : Int) (hM : Hid (waitV t = M)) : Calls Try.prog 28 #[.int .i64 t] w fun e w' => e = .returned (.int .i64 M) ∧ Below w.heap.size w w' := by
  have HN := Lib.hid (Bnd.new w 0 4 (by decide))
  obtain ⟨k, hk⟩ : ∃ k, k = nearV 0 4 t := ⟨_, rfl⟩
  have HC : Hid (∀ u r, Bnd u r 0 4 → Calls Try.prog 82 #[.int .i64 t, .pointer (some ⟨r, 0, none⟩), .pointer (some ⟨r + 1, 0, none⟩)] u fun e w' => e = .returned (.int .i64 k) ∧ u = w') := fun u r h => h.call t k hk.symm
  have hk4 : 0 ≤ k ∧ k ≤ 4 := by rw [hk]; unfold nearV; split <;> (try split) <;> (try split) <;> omega
  have HM : Hid (8 * k = M) := by show _ = _; rw [hk]; exact hM.out
  have HW := Lib.hid (rewithin_any 0 4 w)
  clear hk hM
  obtain ⟨k0, k4⟩ := hk4
  go_enter Try.func28, Try.ntmps28
  go_wp2_with fail
  refine HW.out.mono ?_
  rintro e w1 ⟨rfl, rfl⟩
  go_wp2_with fail
  refine (HC.out _ _ HN.out).mono ?_
  rintro e w1 ⟨rfl, rfl⟩
  go_wp2
  go_returns
  exact ⟨by rw [← HM.out]; first | rfl | simp, ((Below.refl _ w).alloc (Nat.le_refl _) _).alloc (by simp) _⟩
theorem waitV_le (t : Int) : 0 ≤ waitV t ∧ waitV t ≤ 32 := by unfold waitV nearV; (repeat' split) <;> omega
set_option maxHeartbeats 400000 in
theorem redue_r (now asked t : Int) (w : World) (h0 : 0 ≤ asked) (h1 : asked ≤ now) (h2 : now ≤ 1000000) (R : Bool) (hR : Hid (decide (waitV t ≤ now - asked) = R)) :
    Calls Try.prog 59 #[.int .i64 now, .int .i64 asked, .int .i64 t] w fun e w' => e = .returned (.bool R) ∧ Below w.heap.size w w' := by
  obtain ⟨M, hM⟩ : ∃ M, waitV t = M := ⟨_, rfl⟩
  obtain ⟨m0, m1⟩ := waitV_le t
  have HW := Lib.hid (rewait_r t w M hM)
  rw [hM] at hR m0 m1
  clear hM
  go_enter Try.func59, Try.ntmps59
  go_wp2_with fail
  refine HW.out.mono ?_
  rintro e w1 ⟨rfl, B1⟩
  have HB := Lib.hid B1
  clear B1
  go_wp2
  go_returns
  exact ⟨ret_bool (by rw [← hR.out]), HB.out⟩

/-- Who may be asked: some, all of them below n. -/
def mayAskV (L : List Int) (n : Int) : Prop := L ≠ [] ∧ ∀ x ∈ L, 0 ≤ x ∧ x < n
instance (L : List Int) (n : Int) : Decidable (mayAskV L n) := by unfold mayAskV; infer_instance
theorem near_in {n x : Int} (h : 0 ≤ x ∧ x < n) : nearV 0 (n - 1) x = x := by unfold nearV; (repeat' split) <;> omega
theorem near_out {n x : Int} (h : ¬ (0 ≤ x ∧ x < n)) (hn : 1 ≤ n) : nearV 0 (n - 1) x ≠ x := by unfold nearV; (repeat' split) <;> omega
set_option maxHeartbeats 1000000 in
theorem remayask_r (a : Option Addr) (len c : Nat) (L : List Int) (n : Int) (w : World) (hlen : L.length = len) (hI : Ints w w.heap.size (.slice a len c) L) (hn1 : 1 ≤ n) (hn2 : n ≤ 1000) (R : Bool) (hR : Hid (decide (mayAskV L n) = R)) :
    Calls Try.prog 90 #[.slice a len c, .int .i64 n] w fun e w' => e = .returned (.bool R) ∧ Below w.heap.size w w' := by
  obtain ⟨ao', cap', he, hcap, hmax, _, hc⟩ := hI
  simp only [Value.slice.injEq] at he
  obtain ⟨rfl, -, rfl⟩ := he
  rw [hlen] at hcap
  unfold maxLen at hmax
  have HC := Lib.hid hc
  have HL := Lib.hid hlen
  have HW := Lib.hid (rewithin_any 0 (n - 1) w)
  have HN := Lib.hid (Bnd.new w 0 (n - 1) (by omega))
  have HK : Hid (∀ u r x y, nearV 0 (n - 1) x = y → Bnd u r 0 (n - 1) → Calls Try.prog 82 #[.int .i64 x, .pointer (some ⟨r, 0, none⟩), .pointer (some ⟨r + 1, 0, none⟩)] u fun e w' => e = .returned (.int .i64 y) ∧ u = w') := fun u r x y hy h => h.call x y hy
  obtain ⟨w1, hw1⟩ : ∃ w1, w1 = (w.alloc (.cells #[.int .i64 0] 3)).alloc (.cells #[.int .i64 (n - 1)] 3) := ⟨_, rfl⟩
  have HB : Hid (Below w.heap.size w w1) := by rw [hw1]; exact ((Below.refl _ w).alloc (Nat.le_refl _) _).alloc (by simp) _
  clear hc hlen
  go_enter Try.func90, Try.ntmps90
  go_wp2_with fail
  refine HW.out.mono ?_
  rintro e w2 ⟨rfl, rfl⟩
  rw [← hw1] at HN ⊢
  clear hw1 HW
  go_wp2
  go_loop [13] (fun vi => ∃ k : Nat, k ≤ len ∧ vi = .int .i64 k ∧ Hid (∀ x ∈ L.take k, 0 ≤ x ∧ x < n)) (fun vi => len - (intOf vi).toNat)
  case atStart => exact ⟨0, by omega, rfl, by show ∀ q ∈ L.take 0, _; simp⟩
  case round =>
    obtain ⟨k, hk, rfl, HQ⟩ := hrel
    by_cases hlt : k < len
    · have hkL : k < L.length := by rw [HL.out]; exact hlt
      obtain ⟨b, off, rfl, hb, hc⟩ := HC.out (by intro e; rw [e] at hkL; simp at hkL)
      have hx := hc k hkL
      have HT : Hid (L.take (k + 1) = L.take k ++ [L[k]]) := List.take_succ_eq_append_getElem hkL
      have HM := Lib.hid (List.getElem_mem hkL)
      have c1 := (HB.out.cell (p := ⟨b, off + k, none⟩) hb).trans hx
      rw [show L.getD k 0 = L[k] by simp [hkL]] at c1
      clear hc hx
      generalize L[k] = x at c1 HT HM
      clear hkL
      have i0 : (0 : Int) ≤ (k : Int) := by omega
      have i1 : (k : Int) < (len : Int) := by omega
      by_cases hin : 0 ≤ x ∧ x < n
      · have HX := Lib.hid (HK.out w1 w.heap.size x x (near_in hin) HN.out)
        have HI := Lib.hid hin
        clear hin
        go_wp2_with fail
        refine HX.out.mono ?_
        rintro e w2 ⟨rfl, rfl⟩
        go_wp2
        go_round
        case rel =>
          refine ⟨k + 1, by omega, by go_num, ?_⟩
          show ∀ q ∈ L.take (k + 1), _
          rw [HT.out]
          intro q hq
          rcases List.mem_append.1 hq with hq | hq
          · exact HQ.out q hq
          · rw [List.mem_singleton.1 hq]; exact HI.out
        case measure => simp [intOf]; omega
      · obtain ⟨y, hy⟩ : ∃ y, nearV 0 (n - 1) x = y := ⟨_, rfl⟩
        have hne : ¬ y = x := hy ▸ near_out hin hn1
        have HX := Lib.hid (HK.out w1 w.heap.size x y hy HN.out)
        have HF : Hid (R = false) := by
          show _ = _
          rw [← hR.out]
          exact decide_eq_false fun h => hin (h.2 _ HM.out)
        have hne2 : (y == x) = false := by simpa using hne
        clear hin hy hne
        go_wp2_with fail
        refine HX.out.mono ?_
        rintro e w2 ⟨rfl, rfl⟩
        go_wp2
        go_returns
        exact ⟨ret_bool HF.out.symm, HB.out⟩
    · have HF : Hid (decide ((0 : Int) < (len : Int)) = R) := by
        show _ = _
        rw [← hR.out]
        refine decide_eq_decide.2 ⟨fun h => ⟨?_, ?_⟩, fun h => ?_⟩
        · intro e; have := HL.out; rw [e] at this; simp at this; omega
        · have := HQ.out
          rwa [List.take_of_length_le (by rw [HL.out]; omega)] at this
        · have := List.length_pos_iff.2 h.1; have := HL.out; omega
      go_wp2
      go_returns
      refine ⟨ret_bool ?_, HB.out⟩
      rw [← HF.out]
      first | rfl | (refine decide_eq_decide.2 ?_; have := HL.out; omega)
end Go.Proofs.Ytpcbpimlakehcaa
