/-
  THE PROGRAM's turns (a closure over what is left), mayBeNew, mayBeOf; slices.Index, slices.Max of ints. Of at most a million.
-/
import Derived.Test.YtaaffceanjpmbaaChainB
import Derived.Test.YtaaffceanjpmbaaOnly
namespace Go.Proofs.Ytaaffceanjpmbaa
open Go.RowKit

theorem size_int1 (u : World) : (sizeOf (Try.prog.elem 22)).run Try.prog u = .ok 1 u := by kernel_rfl
set_option maxRecDepth 100000 in
theorem run_slice_ints (a : Option Addr) (n cap : Nat) (lo hi : Option Value) (u : World) : (Instr.sliceAt 22 (.slice a n cap) lo hi none).run Try.prog u = (Instr.slice 22 (.slice a n cap) lo hi none).run Try.prog u := run_sliceAt_slice u 22 _ _ _ _ Try.underlying22
set_option maxRecDepth 100000 in
/-- 'v[i:]' of ints that a slice holds. -/
theorem ints_from {w : World} {B : Nat} {a : Option Addr} {n cap : Nat} {L : List Int} (h : Ints w B (.slice a n cap) L) (i : Nat) (x : Int) (hx : x = i) (hi : i ≤ n) :
    ∃ a', (∀ u : World, (Instr.sliceAt 22 (.slice a n cap) (some (.int .i64 x)) none none).run Try.prog u = .ok (.slice a' (n - i) (cap - i)) u ∧ (Instr.slice 22 (.slice a n cap) (some (.int .i64 x)) none none).run Try.prog u = .ok (.slice a' (n - i) (cap - i)) u) ∧
      Ints w B (.slice a' (n - i) (cap - i)) (L.drop i) := by
  subst hx
  obtain ⟨ao, cap', he, h1, h2, h3, h4⟩ := h
  simp only [Value.slice.injEq] at he
  obtain ⟨rfl, rfl, rfl⟩ := he
  have hrun : ∀ u, (Instr.slice 22 (.slice a L.length cap) (some (.int .i64 (i : Int))) none none).run Try.prog u = .ok (.slice (if cap = i then a else a.map (·.add (i * 1))) (L.length - i) (cap - i)) u := fun u => by
    rw [run_slice_l u 22 a L.length cap Try.underlying22 .i64 i (by omega) (by omega), size_int1]
    simp [Result.andThen, sliced]
  refine ⟨if cap = i then a else a.map (·.add (i * 1)), fun u => ⟨(run_slice_ints ..).trans (hrun u), hrun u⟩, ?_⟩
  have hdl : (L.drop i).length = L.length - i := List.length_drop
  by_cases hci : cap = i
  · rw [if_pos hci]
    have hl : L.drop i = [] := List.eq_nil_of_length_eq_zero (by rw [List.length_drop]; omega)
    refine ⟨_, _, by rw [hdl], by omega, by omega, fun e => by rw [h3 e]; omega, fun e => absurd hl e⟩
  · rw [if_neg hci]
    refine ⟨_, _, by rw [hdl], by omega, by omega, fun e => ?_, fun hne => ?_⟩
    · cases a with
      | none => rw [h3 rfl]; omega
      | some a => cases e
    · obtain ⟨b, off, rfl, hb, hc⟩ := h4 (fun e => hne (by rw [e]; simp))
      refine ⟨b, off + i, by rw [Option.map_some, Nat.mul_one, Addr.add_lit], hb, fun j hj => ?_⟩
      rw [hdl] at hj
      rw [Nat.add_assoc, hc (i + j) (by omega), List.getD_eq_getElem?_getD, List.getD_eq_getElem?_getD, List.getElem?_drop]

set_option maxHeartbeats 1000000 in
theorem slindex_r (v : Value) (L : List Int) (x : Int) (B : Nat) (w : World) (hI : Ints w B v L) (hlim : L.length ≤ 1000000) {R : Int} (hR : plcV L x = R) :
    Calls Try.prog 80 #[v, .int .i64 x] w fun e w' => e = .returned (.int .i64 R) ∧ w = w' := by
  have HR := Lib.hid hR
  obtain ⟨a0, c0, rfl⟩ : ∃ a c, v = .slice a L.length c := by obtain ⟨a, c, h, _⟩ := hI; exact ⟨a, c, h⟩
  obtain ⟨n, hn⟩ : ∃ n, n = L.length := ⟨_, rfl⟩
  rw [← hn] at hI hlim ⊢
  have HN := Lib.hid hn
  have HI := Lib.hid hI
  clear hR hn hI
  go_enter Try.func80, Try.ntmps80
  go_wp2
  go_loopw [8] (fun s8 wr => ∃ k : Nat, k ≤ n ∧ s8 = .int .i64 k ∧ Hid (x ∉ L.take k) ∧ w = wr) (fun s8 _ => n - (intOf s8).toNat)
  case atStart => exact ⟨0, Nat.zero_le _, rfl, by show _ ∉ _; simp, rfl⟩
  case round =>
    obtain ⟨k, hk, rfl, HK, rfl⟩ := hrel
    by_cases hlt : k < n
    · obtain ⟨b, off, rfl, hb, hc⟩ := (ints_cell HI.out).2 k hlt
      have k1 : (k : Int) < (n : Int) := by omega
      have k0 : (0 : Int) ≤ (k : Int) := by omega
      obtain ⟨y, hy⟩ : ∃ y, y = L.getD k 0 := ⟨_, rfl⟩
      rw [← hy] at hc
      have HY := Lib.hid hy
      clear hy
      by_cases hxy : x = y
      · have HF : Hid (R = (k : Int)) := by
          show _ = _
          rw [← HR.out]
          obtain ⟨h1, h2⟩ := idx_first (L := L) (k := k) (x := x) (by have := HN.out; omega) (by rw [← HY.out, hxy]) HK.out
          unfold plcV
          rw [if_pos h1, h2]
        subst hxy
        go_wp2
        go_returns
        exact ⟨ret_num HF.out.symm, rfl⟩
      · have HF : Hid (x ∉ L.take (k + 1)) := not_take (by have := HN.out; omega) HK.out (fun e => hxy (e.symm.trans HY.out.symm))
        have hb2 : (x == y) = false := beq_eq_false_iff_ne.2 hxy
        clear hxy
        go_wp2
        go_roundw
        case rel => exact ⟨k + 1, by omega, by go_num, HF.out, by first | rfl | trivial⟩
        case measure => simp [intOf]; omega
    · have hle : (n : Int) ≤ (k : Int) := by omega
      have HF : Hid (R = -1) := by
        show _ = _
        rw [← HR.out]
        unfold plcV
        rw [if_neg (not_first (by have := HN.out; omega) HK.out)]
      go_wp2
      go_returns
      exact ⟨ret_num HF.out.symm, rfl⟩

set_option maxHeartbeats 1000000 in
theorem slmax_r (v : Value) (L : List Int) (B : Nat) (w : World) (hI : Ints w B v L) (hlim : L.length ≤ 1000000) (h1 : 1 ≤ L.length) :
    Calls Try.prog 55 #[v] w fun e w' => (∃ M, e = .returned (.int .i64 M) ∧ ∀ n, M < n ↔ ∀ x ∈ L, x < n) ∧ w = w' := by
  obtain ⟨a0, c0, rfl⟩ : ∃ a c, v = .slice a L.length c := by obtain ⟨a, c, h, _⟩ := hI; exact ⟨a, c, h⟩
  obtain ⟨n, hn⟩ : ∃ n, n = L.length := ⟨_, rfl⟩
  rw [← hn] at hI hlim h1 ⊢
  obtain ⟨b, off, rfl, hb, hc0⟩ := (ints_cell hI).2 0 (by omega)
  rw [Nat.add_zero] at hc0
  obtain ⟨y0, hy0⟩ : ∃ y, y = L.getD 0 0 := ⟨_, rfl⟩
  rw [← hy0] at hc0
  have HY0 := Lib.hid hy0
  have HN := Lib.hid hn
  have HI := Lib.hid hI
  have hn0 : (0 : Int) < (n : Int) := by omega
  have hn1 : (1 : Int) ≤ (n : Int) := by omega
  clear hn hI hy0
  go_enter Try.func55, Try.ntmps55
  go_wp2
  go_loopw [3, 4] (fun s3 s4 wr => ∃ (k : Nat) (M : Int), 1 ≤ k ∧ k ≤ n ∧ s3 = .int .i64 M ∧ s4 = .int .i64 k ∧ Hid (∀ z, M < z ↔ ∀ x ∈ L.take k, x < z) ∧ w = wr) (fun _ s4 _ => n - (intOf s4).toNat)
  case atStart =>
    refine ⟨1, y0, by omega, by omega, rfl, rfl, fun z => ?_, rfl⟩
    rw [take_snoc L 0 (by have := HN.out; omega), ← HY0.out]
    simp
  case round =>
    obtain ⟨k, M, hk1, hk, rfl, rfl, HK, rfl⟩ := hrel
    by_cases hlt : k < n
    · obtain ⟨b', off', he, hb', hc⟩ := (ints_cell HI.out).2 k hlt
      simp only [Option.some.injEq, Addr.mk.injEq, and_true] at he
      obtain ⟨rfl, rfl⟩ := he
      have k1 : (k : Int) < (n : Int) := by omega
      have k0 : (0 : Int) ≤ (k : Int) := by omega
      obtain ⟨y, hy⟩ : ∃ y, y = L.getD k 0 := ⟨_, rfl⟩
      rw [← hy] at hc
      have HF : Hid (∀ M', (M' = if M < y then y else M) → ∀ z, M' < z ↔ ∀ x ∈ L.take (k + 1), x < z) := by
        intro M' he z
        rw [take_snoc L k (by have := HN.out; omega), ← hy]
        have := HK.out z
        simp only [List.mem_append, List.mem_singleton, he]
        constructor
        · intro h x hx
          rcases hx with hx | rfl
          · refine this.1 ?_ x hx
            split at h <;> omega
          · split at h <;> omega
        · intro h
          have h2 := this.2 (fun x hx => h x (.inl hx))
          have h3 := h y (.inr rfl)
          split <;> omega
      clear hy
      go_wp2
      go_roundw
      case rel => exact ⟨k + 1, _, by omega, by omega, rfl, by go_num, HF.out _ rfl, by first | rfl | trivial⟩
      case measure => simp [intOf]; omega
    · have hle : (n : Int) ≤ (k : Int) := by omega
      have HF : Hid (∀ z, M < z ↔ ∀ x ∈ L, x < z) := fun z => by
        have := HK.out z
        rwa [List.take_of_length_le (by have := HN.out; omega)] at this
      go_wp2
      go_returns
      exact ⟨⟨_, rfl, HF.out⟩, rfl⟩

set_option maxHeartbeats 1000000 in
theorem maybeof_r (ep : Int) (v : Value) (L : List Int) (n : Int) (B : Nat) (w : World) (hI : Ints w B v L) (hB : B ≤ w.heap.size) {R : Bool} (hR : decide (ChainV.may ⟨ep, L⟩ ∧ ∀ x ∈ L, x < n) = R) :
    Calls Try.prog 59 #[.agg #[.int .i64 ep, v], .int .i64 n] w fun e w' => e = .returned (.bool R) ∧ Below w.heap.size w w' := by
  have hk : ∀ o, Ints (w.alloc o) B v L := fun o => hI.keep (((Below.refl _ w).alloc (Nat.le_refl _) o).mono hB)
  have HM : Hid (∀ o, Calls Try.prog 35 #[.agg #[.int .i64 ep, v]] (w.alloc o) fun e w' => e = .returned (.bool (decide (ChainV.may ⟨ep, L⟩))) ∧ Below (w.heap.size + 1) (w.alloc o) w') := fun o =>
    (maychain_r ep v L B (w.alloc o) (hk o) (by simp; omega) _ rfl).mono fun e w' ⟨he, h⟩ => ⟨he, by simpa using h⟩
  have HK := Lib.hid hI
  have HR := Lib.hid hR
  obtain ⟨a0, c0, rfl⟩ : ∃ a c, v = .slice a L.length c := by obtain ⟨a, c, h, _⟩ := hI; exact ⟨a, c, h⟩
  clear hI hk hR
  by_cases hm : ChainV.may ⟨ep, L⟩
  · have hl : 1 ≤ L.length ∧ L.length ≤ 5 := ⟨hm.2.2.1, hm.2.2.2.1⟩
    have hd : decide (ChainV.may ⟨ep, L⟩) = true := decide_eq_true hm
    rw [hd] at HM
    have HX : Hid (∀ u, Below w.heap.size w u → Calls Try.prog 55 #[.slice a0 L.length c0] u fun e w' => (∃ M, e = .returned (.int .i64 M) ∧ Hid (∀ n, M < n ↔ ∀ x ∈ L, x < n)) ∧ u = w') := fun u hu =>
      slmax_r _ L B u (HK.out.keep (hu.mono hB)) (by omega) hl.1
    have HM2 := Lib.hid hm
    clear hm hd hl
    go_enter Try.func59, Try.ntmps59
    go_wp2_with fail
    refine (HM.out _).mono ?_
    rintro e w1 ⟨rfl, B1⟩
    have C1 : Hid (Below w.heap.size w w1) := ((Below.refl _ w).alloc (Nat.le_refl _) _).trans (B1.mono (by omega))
    have b0 := ((ChB.fresh w ep (.slice a0 L.length c0) 28).keep B1 (by omega)).cells.2
    clear B1
    go_wp2_with fail
    refine (HX.out _ C1.out).mono ?_
    rintro e w2 ⟨⟨M, rfl, HMX⟩, rfl⟩
    go_wp2
    go_returns
    refine ⟨ret_bool ?_, C1.out⟩
    rw [← HR.out, Bool.eq_iff_iff]
    simp [HMX.out n, HM2.out]
  · have hd : decide (ChainV.may ⟨ep, L⟩) = false := decide_eq_false hm
    rw [hd] at HM
    have HF : Hid (R = false) := by show _ = _; rw [← HR.out]; exact decide_eq_false fun h => hm h.1
    clear hm hd
    go_enter Try.func59, Try.ntmps59
    go_wp2_with fail
    refine (HM.out _).mono ?_
    rintro e w1 ⟨rfl, B1⟩
    have C1 : Hid (Below w.heap.size w w1) := ((Below.refl _ w).alloc (Nat.le_refl _) _).trans (B1.mono (by omega))
    clear B1
    go_wp2
    go_returns
    exact ⟨ret_bool HF.out.symm, C1.out⟩

set_option maxHeartbeats 400000 in
theorem chturns_any (ep : Int) (a : Option Addr) (n c : Nat) (w : World) : Calls Try.prog 60 #[.agg #[.int .i64 ep, .slice a n c]] w fun e w' => e = .returned (.func (.func 79) #[] #[.pointer (some ⟨w.heap.size + 1, 0, none⟩)]) ∧ w' = (w.alloc (.cells #[.int .i64 ep, .slice a n c] 28)).alloc (.cells #[.slice a n c] 22) := by
  go_enter Try.func60, Try.ntmps60
  go_wp2
  go_returns
  exact ⟨rfl, by first | rfl | trivial⟩

/-- What is left behind him, if he is there. -/
def behindL (L : List Int) (x : Int) : List Int := if x ∈ L then L.drop (L.idxOf x + 1) else L

set_option maxHeartbeats 1000000 in
theorem chturns1_r (x : Int) (bx : Nat) (v : Value) (L : List Int) (hlim : L.length ≤ 1000000) (B : Nat) (w : World) (hb : w.heap[bx]? = some (.cells #[v] 22 (0, 0))) (hI : Ints w B v L) (hB : B ≤ bx) :
    Calls Try.prog 79 #[.int .i64 x, .pointer (some ⟨bx, 0, none⟩)] w fun e w' => e = .returned (.bool (decide (x ∈ L))) ∧ (∃ v', w'.heap[bx]? = some (.cells #[v'] 22 (0, 0)) ∧ Ints w' B v' (behindL L x)) ∧ Only (· = bx) w w' := by
  have HX := Lib.hid (slindex_r v L x B w hI hlim rfl)
  have HB := Lib.hid hb
  have HI := Lib.hid hI
  obtain ⟨a0, c0, rfl⟩ : ∃ a c, v = .slice a L.length c := by obtain ⟨a, c, h, _⟩ := hI; exact ⟨a, c, h⟩
  have b0 : w.cell? ⟨bx, 0, none⟩ = some (.slice a0 L.length c0) := cell_of_one hb
  have f0 : w.frozen? ⟨bx, 0, none⟩ = false := by simp [World.frozen?, hb]
  by_cases hx : x ∈ L
  · have hp : plcV L x = (L.idxOf x : Int) := by unfold plcV; rw [if_pos hx]
    have hl := (mem_getD hx).1
    rw [hp] at HX
    obtain ⟨k, hk⟩ : ∃ k, k = L.idxOf x := ⟨_, rfl⟩
    rw [← hk] at HX hl
    obtain ⟨a1, hrun, hI1⟩ := ints_from hI (k + 1) ((k : Int) + 1) (by omega) (by omega)
    have e1 := fun u => (hrun u).1
    have e2 := fun u => (hrun u).2
    have hbe : behindL L x = L.drop (k + 1) := by unfold behindL; rw [if_pos hx, hk]
    rw [hbe, decide_eq_true hx]
    have H1 := Lib.hid hI1
    have s1 : wrap64 ((k : Int) + 1) = (k : Int) + 1 := IntWalk.wrap64_in _ (by omega)
    clear hx hp hk hrun hI1 hbe hI hb
    go_enter Try.func79, Try.ntmps79
    go_wp2_with fail
    refine HX.out.mono ?_
    rintro e w1 ⟨rfl, rfl⟩
    go_wp2
    go_returns
    refine ⟨rfl, ⟨_, by rw [heap_setCell_same _ _ _ _ _ _ HB.out]; rfl, H1.out.keep ((Below.refl _ w).setCell (p := ⟨bx, 0, none⟩) hB _)⟩, Only.set bx 0 w _⟩
  · have hp : plcV L x = -1 := by unfold plcV; rw [if_neg hx]
    have hbe : behindL L x = L := by unfold behindL; rw [if_neg hx]
    rw [hp] at HX
    rw [hbe, decide_eq_false hx]
    clear hx hp hbe hI hb
    go_enter Try.func79, Try.ntmps79
    go_wp2_with fail
    refine HX.out.mono ?_
    rintro e w1 ⟨rfl, rfl⟩
    go_wp2
    go_returns
    exact ⟨rfl, ⟨_, HB.out, HI.out⟩, .refl _ _⟩

set_option maxHeartbeats 1000000 in
theorem maybenew_r (p x q : Int) (ep : Int) (v : Value) (L : List Int) (hlim : L.length ≤ 1000000) (B : Nat) (w : World) (hI : Ints w B v L) (hB : B ≤ w.heap.size) {R : Bool} (hR : decide (p ≠ -1 ∧ q = -1 ∧ x ∉ L) = R) :
    Calls Try.prog 62 #[.agg #[.int .i64 p, .int .i64 x, .int .i64 q], .agg #[.int .i64 ep, v]] w fun e w' => e = .returned (.bool R) ∧ Below w.heap.size w w' := by
  have HH : Hid (∀ u, Below w.heap.size w u → Calls Try.prog 83 #[.agg #[.int .i64 ep, v], .int .i64 x] u fun e w' => e = .returned (.bool (decide (x ∈ L))) ∧ Below w.heap.size w w') := fun u hu =>
    (chhas_r ep v L hlim x B u (hI.keep (hu.mono hB)) (Nat.le_trans hB hu.size) rfl).mono fun e w' ⟨he, h⟩ => ⟨he, hu.trans (h.mono hu.size)⟩
  have HR := Lib.hid hR
  clear hI hR
  have P2 : Below w.heap.size w ((w.alloc (.cells #[.int .i64 p, .int .i64 x, .int .i64 q] 97)).alloc (.cells #[.int .i64 ep, v] 28)) := by go_grown
  have HP2 := Lib.hid P2
  clear P2
  by_cases hp : p = -1
  · have HF : Hid (R = false) := by show _ = _; rw [← HR.out]; exact decide_eq_false fun h => h.1 hp
    subst hp
    go_enter Try.func62, Try.ntmps62
    go_wp2
    go_returns
    exact ⟨ret_bool HF.out.symm, HP2.out⟩
  · have hpb : (p != -1) = true := by simp [hp]
    by_cases hq : q = -1
    · have HF : Hid (R = !decide (x ∈ L)) := by
        show _ = _
        rw [← HR.out, Bool.eq_iff_iff]
        simp [hp, hq]
      subst hq
      clear hp
      go_enter Try.func62, Try.ntmps62
      go_wp2_with fail
      refine (HH.out _ HP2.out).mono ?_
      rintro e w1 ⟨rfl, B1⟩
      have C1 := Lib.hid B1
      clear B1
      go_wp2
      go_returns
      exact ⟨ret_bool (by rw [HF.out]; try simp), C1.out⟩
    · have HF : Hid (R = false) := by show _ = _; rw [← HR.out]; exact decide_eq_false fun h => hq h.2.1
      have hqb : (q == -1) = false := beq_eq_false_iff_ne.2 hq
      clear hp hq
      go_enter Try.func62, Try.ntmps62
      go_wp2
      go_returns
      exact ⟨ret_bool HF.out.symm, HP2.out⟩
end Go.Proofs.Ytaaffceanjpmbaa
