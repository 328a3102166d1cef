/-
  THE REFERENCE's Place, below, Follows. Of chains of at most a million nodes.
-/
import Derived.Test.YtaaffceanjpmbaaChainE
import Derived.Test.YtaaffceanjpmbaaChainA
import Derived.Test.YtaaffceanjpmbaaItemRC
import Derived.Test.YtaaffceanjpmbaaPackBase
namespace Go.Proofs.Ytaaffceanjpmbaa
open Go.RowKit

theorem wrap_up (n : Nat) (h : n ≤ 1000000) : wrap64 ((n : Int) + 1) = (n : Int) + 1 := IntWalk.wrap64_in _ (by omega)
theorem wrap_down (n : Nat) (h : n ≤ 1000000) : wrap64 ((n : Int) - 1) = (n : Int) - 1 := IntWalk.wrap64_in _ (by omega)

set_option maxHeartbeats 2000000 in
theorem rhplace_r (ep : Int) (v : Value) (L : List Int) (x : Int) (B : Nat) (w : World) (hI : Ints w B v L) (hB : B ≤ w.heap.size) (hlim : L.length ≤ 1000000) {R : Int} (hR : plcV L x = R) :
    Calls Try.prog 52 #[.agg #[.int .i64 ep, v], .int .i64 x] w fun e w' => e = .returned (.int .i64 R) ∧ Below w.heap.size w w' := by
  have HR := Lib.hid hR
  obtain ⟨a0, c0, rfl⟩ : ∃ a c, v = .slice a L.length c := by obtain ⟨a, c, h, _⟩ := hI; exact ⟨a, c, h⟩
  obtain ⟨n, hn⟩ : ∃ n, n = L.length := ⟨_, rfl⟩
  rw [← hn] at hI hlim ⊢
  have HN := Lib.hid hn
  have HI := Lib.hid hI
  clear hR hn hI
  go_enter Try.func52, Try.ntmps52
  go_wp2
  go_loopw [5] (fun s5 wr => ∃ k : Nat, k ≤ n ∧ s5 = .int .i64 k ∧ Hid (x ∉ L.take k) ∧ Hid (ChT wr w.heap.size ep (.slice a0 n c0) ∧ Below w.heap.size w wr)) (fun s5 _ => n - (intOf s5).toNat)
  case atStart => exact ⟨0, Nat.zero_le _, rfl, by show _ ∉ _; simp, ChT.fresh w _ _, (Below.refl _ w).alloc (Nat.le_refl _) _⟩
  case round =>
    obtain ⟨k, hk, rfl, HK, HC⟩ := hrel
    obtain ⟨d0, d1, _, _⟩ := HC.out.1.cells
    by_cases hlt : k < n
    · obtain ⟨b, off, rfl, hb, hc0⟩ := (ints_cell HI.out).2 k hlt
      have hc := (HC.out.2.cell (p := ⟨b, off + k, none⟩) (show b < w.heap.size by omega)).trans hc0
      have k1 : (k : Int) < (n : Int) := by omega
      have k0 : (0 : Int) ≤ (k : Int) := by omega
      obtain ⟨y, hy⟩ : ∃ y, y = L.getD k 0 := ⟨_, rfl⟩
      rw [← hy] at hc
      have HY := Lib.hid hy
      clear hy hc0
      by_cases hxy : y = x
      · have HF : Hid (R = (k : Int)) := by
          show _ = _
          rw [← HR.out]
          obtain ⟨h1, h2⟩ := idx_first (L := L) (k := k) (x := x) (by have := HN.out; omega) (by rw [← HY.out, hxy]) HK.out
          unfold plcV
          rw [if_pos h1, h2]
        subst hxy
        go_wp2
        go_returns
        exact ⟨ret_num HF.out.symm, HC.out.2⟩
      · have HF : Hid (x ∉ L.take (k + 1)) := not_take (by have := HN.out; omega) HK.out (fun e => hxy (HY.out.trans e))
        have hb2 : (y == x) = false := beq_eq_false_iff_ne.2 hxy
        clear hxy
        go_wp2
        go_roundw
        case rel => exact ⟨k + 1, by omega, by go_num, HF.out, HC.out⟩
        case measure => simp [intOf]; omega
    · have hle : (n : Int) ≤ (k : Int) := by omega
      have HF : Hid (R = -1) := by
        show _ = _
        rw [← HR.out]
        unfold plcV
        rw [if_neg (not_first (by have := HN.out; omega) HK.out)]
      go_wp2
      go_returns
      exact ⟨ret_num HF.out.symm, HC.out.2⟩

set_option maxHeartbeats 2000000 in
theorem rhbelow_r (ep : Int) (v : Value) (L : List Int) (z : Int) (B : Nat) (w : World) (hI : Ints w B v L) (hB : B ≤ w.heap.size) (hlim : L.length ≤ 1000000) {R : Bool} (hR : decide (∀ x ∈ L, x < z) = R) :
    Calls Try.prog 44 #[.agg #[.int .i64 ep, v], .int .i64 z] w fun e w' => e = .returned (.bool R) ∧ Below w.heap.size w w' := by
  have HR := Lib.hid hR
  obtain ⟨a0, c0, rfl⟩ : ∃ a c, v = .slice a L.length c := by obtain ⟨a, c, h, _⟩ := hI; exact ⟨a, c, h⟩
  obtain ⟨n, hn⟩ : ∃ n, n = L.length := ⟨_, rfl⟩
  rw [← hn] at hI hlim ⊢
  have HN := Lib.hid hn
  have HI := Lib.hid hI
  clear hR hn hI
  go_enter Try.func44, Try.ntmps44
  go_wp2
  go_loopw [5] (fun s5 wr => ∃ k : Nat, k ≤ n ∧ s5 = .int .i64 k ∧ Hid (∀ x ∈ L.take k, x < z) ∧ Hid (ChT wr w.heap.size ep (.slice a0 n c0) ∧ Below w.heap.size w wr)) (fun s5 _ => n - (intOf s5).toNat)
  case atStart => exact ⟨0, Nat.zero_le _, rfl, by show ∀ x ∈ _, _; simp, ChT.fresh w _ _, (Below.refl _ w).alloc (Nat.le_refl _) _⟩
  case round =>
    obtain ⟨k, hk, rfl, HK, HC⟩ := hrel
    obtain ⟨d0, d1, _, _⟩ := HC.out.1.cells
    by_cases hlt : k < n
    · obtain ⟨b, off, rfl, hb, hc0⟩ := (ints_cell HI.out).2 k hlt
      have hc := (HC.out.2.cell (p := ⟨b, off + k, none⟩) (show b < w.heap.size by omega)).trans hc0
      have k1 : (k : Int) < (n : Int) := by omega
      have k0 : (0 : Int) ≤ (k : Int) := by omega
      obtain ⟨y, hy⟩ : ∃ y, y = L.getD k 0 := ⟨_, rfl⟩
      rw [← hy] at hc
      have HY := Lib.hid hy
      clear hy hc0
      by_cases hxy : z ≤ y
      · have HF : Hid (R = false) := by
          show _ = _
          rw [← HR.out]
          refine decide_eq_false fun h => ?_
          have := h _ (chGet_mem (L := L) (k := k) (by have := HN.out; omega))
          rw [← HY.out] at this
          omega
        go_wp2
        go_returns
        exact ⟨ret_bool HF.out.symm, HC.out.2⟩
      · have HF : Hid (∀ x ∈ L.take (k + 1), x < z) := by
          intro x hx
          rw [take_snoc L k (by have := HN.out; omega)] at hx
          rcases List.mem_append.1 hx with hx | hx
          · exact HK.out x hx
          · rw [List.mem_singleton.1 hx, ← HY.out]; omega
        have hyz : y < z := by omega
        clear hxy
        go_wp2
        go_roundw
        case rel => exact ⟨k + 1, by omega, by go_num, HF.out, HC.out⟩
        case measure => simp [intOf]; omega
    · have hle : (n : Int) ≤ (k : Int) := by omega
      have HF : Hid (R = true) := by
        show _ = _
        rw [← HR.out]
        refine decide_eq_true ?_
        have := HK.out
        rwa [List.take_of_length_le (by have := HN.out; omega)] at this
      go_wp2
      go_returns
      exact ⟨ret_bool HF.out.symm, HC.out.2⟩

set_option maxRecDepth 100000 in
set_option maxHeartbeats 4000000 in
theorem rhfollows_not (ea : Int) (va : Value) (A : List Int) (eb : Int) (vb : Value) (L : List Int) (n : Int) (B : Nat) (w : World) (hIa : Ints w B va A) (hIb : Ints w B vb L) (hB : B ≤ w.heap.size) (hla : A.length ≤ 1000000) (hlb : L.length ≤ 1000000)
    (hno : ¬ (ChainV.may ⟨ea, A⟩ ∧ ChainV.may ⟨eb, L⟩ ∧ (∀ x ∈ A, x < n) ∧ (∀ x ∈ L, x < n) ∧ eb = ea + 1)) :
    Calls Try.prog 26 #[.agg #[.int .i64 ea, va], .agg #[.int .i64 eb, vb], .int .i64 n] w fun e w' => e = .returned (.bool false) ∧ Below w.heap.size w w' := by
  obtain ⟨aa, ca, rfl⟩ : ∃ a c, va = .slice a A.length c := by obtain ⟨a, c, h, _⟩ := hIa; exact ⟨a, c, h⟩
  obtain ⟨ab, cb, rfl⟩ : ∃ a c, vb = .slice a L.length c := by obtain ⟨a, c, h, _⟩ := hIb; exact ⟨a, c, h⟩
  have U0 : Hid (Below w.heap.size w ((w.alloc (.cells #[.int .i64 ea, .slice aa A.length ca] 28)).alloc (.cells #[.int .i64 eb, .slice ab L.length cb] 28))) :=
    ((Below.refl _ w).alloc (Nat.le_refl _) _).alloc (by simp) _
  have A0 : Hid (ChT ((w.alloc (.cells #[.int .i64 ea, .slice aa A.length ca] 28)).alloc (.cells #[.int .i64 eb, .slice ab L.length cb] 28)) w.heap.size ea (.slice aa A.length ca)) :=
    (ChT.fresh w _ _).keep ((Below.refl _ _).alloc (Nat.le_refl _) _) (by simp)
  have B0 : Hid (ChT ((w.alloc (.cells #[.int .i64 ea, .slice aa A.length ca] 28)).alloc (.cells #[.int .i64 eb, .slice ab L.length cb] 28)) (w.heap.size + 1) eb (.slice ab L.length cb)) := by
    have := ChT.fresh (w.alloc (.cells #[.int .i64 ea, .slice aa A.length ca] 28)) eb (.slice ab L.length cb)
    rwa [World.size_alloc] at this
  have HM1 : Hid (∀ u, Below w.heap.size w u → Calls Try.prog 43 #[.agg #[.int .i64 ea, .slice aa A.length ca]] u fun e w' => e = .returned (.bool (decide (ChainV.may ⟨ea, A⟩))) ∧ Below u.heap.size u w') := fun u hu =>
    refmaychain_r ea _ A B u (hIa.keep (hu.mono hB)) (Nat.le_trans hB hu.size) _ rfl
  have HM2 : Hid (∀ u, Below w.heap.size w u → Calls Try.prog 43 #[.agg #[.int .i64 eb, .slice ab L.length cb]] u fun e w' => e = .returned (.bool (decide (ChainV.may ⟨eb, L⟩))) ∧ Below u.heap.size u w') := fun u hu =>
    refmaychain_r eb _ L B u (hIb.keep (hu.mono hB)) (Nat.le_trans hB hu.size) _ rfl
  have HM3 : Hid (∀ u, Below w.heap.size w u → Calls Try.prog 44 #[.agg #[.int .i64 ea, .slice aa A.length ca], .int .i64 n] u fun e w' => e = .returned (.bool (decide (∀ x ∈ A, x < n))) ∧ Below u.heap.size u w') := fun u hu =>
    rhbelow_r ea _ A n B u (hIa.keep (hu.mono hB)) (Nat.le_trans hB hu.size) hla rfl
  have HM4 : Hid (∀ u, Below w.heap.size w u → Calls Try.prog 44 #[.agg #[.int .i64 eb, .slice ab L.length cb], .int .i64 n] u fun e w' => e = .returned (.bool (decide (∀ x ∈ L, x < n))) ∧ Below u.heap.size u w') := fun u hu =>
    rhbelow_r eb _ L n B u (hIb.keep (hu.mono hB)) (Nat.le_trans hB hu.size) hlb rfl
  clear hIa hIb
  by_cases h1 : ChainV.may ⟨ea, A⟩
  case neg =>
    rw [decide_eq_false h1] at HM1
    clear hno h1
    go_enter Try.func26, Try.ntmps26
    go_wp2_with fail
    refine (HM1.out _ U0.out).mono ?_
    rintro e w1 ⟨rfl, B⟩
    have U1 := Lib.hid (U0.out.trans (B.mono U0.out.size))
    have A1 := Lib.hid (A0.out.keep B A0.out.lt)
    have B1 := Lib.hid (B0.out.keep B B0.out.lt)
    clear B
    go_wp2
    go_returns
    exact ⟨rfl, U1.out⟩
  rw [decide_eq_true h1] at HM1
  by_cases h2 : ChainV.may ⟨eb, L⟩
  case neg =>
    rw [decide_eq_false h2] at HM2
    clear hno h1 h2
    go_enter Try.func26, Try.ntmps26
    go_wp2_with fail
    refine (HM1.out _ U0.out).mono ?_
    rintro e w1 ⟨rfl, B⟩
    have U1 := Lib.hid (U0.out.trans (B.mono U0.out.size))
    have A1 := Lib.hid (A0.out.keep B A0.out.lt)
    have B1 := Lib.hid (B0.out.keep B B0.out.lt)
    clear B
    obtain ⟨d0, d1, _, _⟩ := B1.out.cells
    go_wp2_with fail
    refine (HM2.out _ U1.out).mono ?_
    rintro e w2 ⟨rfl, B⟩
    have U2 := Lib.hid (U1.out.trans (B.mono U1.out.size))
    have A2 := Lib.hid (A1.out.keep B A1.out.lt)
    have B2 := Lib.hid (B1.out.keep B B1.out.lt)
    clear B d0 d1
    go_wp2
    go_returns
    exact ⟨rfl, U2.out⟩
  rw [decide_eq_true h2] at HM2
  by_cases h3 : ∀ x ∈ A, x < n
  case neg =>
    rw [decide_eq_false h3] at HM3
    clear hno h1 h2 h3
    go_enter Try.func26, Try.ntmps26
    go_wp2_with fail
    refine (HM1.out _ U0.out).mono ?_
    rintro e w1 ⟨rfl, B⟩
    have U1 := Lib.hid (U0.out.trans (B.mono U0.out.size))
    have A1 := Lib.hid (A0.out.keep B A0.out.lt)
    have B1 := Lib.hid (B0.out.keep B B0.out.lt)
    clear B
    obtain ⟨d0, d1, _, _⟩ := B1.out.cells
    go_wp2_with fail
    refine (HM2.out _ U1.out).mono ?_
    rintro e w2 ⟨rfl, B⟩
    have U2 := Lib.hid (U1.out.trans (B.mono U1.out.size))
    have A2 := Lib.hid (A1.out.keep B A1.out.lt)
    have B2 := Lib.hid (B1.out.keep B B1.out.lt)
    clear B d0 d1
    obtain ⟨d0, d1, _, _⟩ := A2.out.cells
    go_wp2_with fail
    refine (HM3.out _ U2.out).mono ?_
    rintro e w3 ⟨rfl, B⟩
    have U3 := Lib.hid (U2.out.trans (B.mono U2.out.size))
    have A3 := Lib.hid (A2.out.keep B A2.out.lt)
    have B3 := Lib.hid (B2.out.keep B B2.out.lt)
    clear B d0 d1
    go_wp2
    go_returns
    exact ⟨rfl, U3.out⟩
  rw [decide_eq_true h3] at HM3
  by_cases h4 : ∀ x ∈ L, x < n
  case neg =>
    rw [decide_eq_false h4] at HM4
    clear hno h1 h2 h3 h4
    go_enter Try.func26, Try.ntmps26
    go_wp2_with fail
    refine (HM1.out _ U0.out).mono ?_
    rintro e w1 ⟨rfl, B⟩
    have U1 := Lib.hid (U0.out.trans (B.mono U0.out.size))
    have A1 := Lib.hid (A0.out.keep B A0.out.lt)
    have B1 := Lib.hid (B0.out.keep B B0.out.lt)
    clear B
    obtain ⟨d0, d1, _, _⟩ := B1.out.cells
    go_wp2_with fail
    refine (HM2.out _ U1.out).mono ?_
    rintro e w2 ⟨rfl, B⟩
    have U2 := Lib.hid (U1.out.trans (B.mono U1.out.size))
    have A2 := Lib.hid (A1.out.keep B A1.out.lt)
    have B2 := Lib.hid (B1.out.keep B B1.out.lt)
    clear B d0 d1
    obtain ⟨d0, d1, _, _⟩ := A2.out.cells
    go_wp2_with fail
    refine (HM3.out _ U2.out).mono ?_
    rintro e w3 ⟨rfl, B⟩
    have U3 := Lib.hid (U2.out.trans (B.mono U2.out.size))
    have A3 := Lib.hid (A2.out.keep B A2.out.lt)
    have B3 := Lib.hid (B2.out.keep B B2.out.lt)
    clear B d0 d1
    obtain ⟨d0, d1, _, _⟩ := B3.out.cells
    go_wp2_with fail
    refine (HM4.out _ U3.out).mono ?_
    rintro e w4 ⟨rfl, B⟩
    have U4 := Lib.hid (U3.out.trans (B.mono U3.out.size))
    have A4 := Lib.hid (A3.out.keep B A3.out.lt)
    have B4 := Lib.hid (B3.out.keep B B3.out.lt)
    clear B d0 d1
    go_wp2
    go_returns
    exact ⟨rfl, U4.out⟩
  rw [decide_eq_true h4] at HM4
  have hne : eb ≠ ea + 1 := fun e => hno ⟨h1, h2, h3, h4, e⟩
  have he0 : wrap64 (ea + 1) = ea + 1 := by
    have := h1.1
    have := h1.2.1
    simp only at *
    exact IntWalk.wrap64_in _ (by omega)
  have hneb : (eb != ea + 1) = true := by simp [hne]
  clear h1 h2 h3 h4 hno hne
  go_enter Try.func26, Try.ntmps26
  go_wp2_with fail
  refine (HM1.out _ U0.out).mono ?_
  rintro e w1 ⟨rfl, B⟩
  have U1 := Lib.hid (U0.out.trans (B.mono U0.out.size))
  have A1 := Lib.hid (A0.out.keep B A0.out.lt)
  have B1 := Lib.hid (B0.out.keep B B0.out.lt)
  clear B
  obtain ⟨d0, d1, _, _⟩ := B1.out.cells
  go_wp2_with fail
  refine (HM2.out _ U1.out).mono ?_
  rintro e w2 ⟨rfl, B⟩
  have U2 := Lib.hid (U1.out.trans (B.mono U1.out.size))
  have A2 := Lib.hid (A1.out.keep B A1.out.lt)
  have B2 := Lib.hid (B1.out.keep B B1.out.lt)
  clear B d0 d1
  obtain ⟨d0, d1, _, _⟩ := A2.out.cells
  go_wp2_with fail
  refine (HM3.out _ U2.out).mono ?_
  rintro e w3 ⟨rfl, B⟩
  have U3 := Lib.hid (U2.out.trans (B.mono U2.out.size))
  have A3 := Lib.hid (A2.out.keep B A2.out.lt)
  have B3 := Lib.hid (B2.out.keep B B2.out.lt)
  clear B d0 d1
  obtain ⟨d0, d1, _, _⟩ := B3.out.cells
  go_wp2_with fail
  refine (HM4.out _ U3.out).mono ?_
  rintro e w4 ⟨rfl, B⟩
  have U4 := Lib.hid (U3.out.trans (B.mono U3.out.size))
  have A4 := Lib.hid (A3.out.keep B A3.out.lt)
  have B4 := Lib.hid (B3.out.keep B B3.out.lt)
  clear B d0 d1
  obtain ⟨d0, d1, _, _⟩ := A4.out.cells
  obtain ⟨g0, g1, _, _⟩ := B4.out.cells
  go_wp2
  go_returns
  exact ⟨rfl, U4.out⟩

set_option maxRecDepth 100000 in
set_option maxHeartbeats 8000000 in
theorem rhfollows_yes (ea : Int) (va : Value) (A : List Int) (eb : Int) (vb : Value) (L : List Int) (n : Int) (B : Nat) (w : World) (hIa : Ints w B va A) (hIb : Ints w B vb L) (hB : B ≤ w.heap.size) (hla : A.length ≤ 1000000) (hlb : L.length ≤ 1000000)
    (h1 : ChainV.may ⟨ea, A⟩) (h2 : ChainV.may ⟨eb, L⟩) (h3 : ∀ x ∈ A, x < n) (h4 : ∀ x ∈ L, x < n) (h5 : eb = ea + 1) {R : Bool} (hR : decide (Fol A L) = R) :
    Calls Try.prog 26 #[.agg #[.int .i64 ea, va], .agg #[.int .i64 eb, vb], .int .i64 n] w fun e w' => e = .returned (.bool R) ∧ Below w.heap.size w w' := by
  obtain ⟨aa, ca, rfl⟩ : ∃ a c, va = .slice a A.length c := by obtain ⟨a, c, h, _⟩ := hIa; exact ⟨a, c, h⟩
  obtain ⟨ab, cb, rfl⟩ : ∃ a c, vb = .slice a L.length c := by obtain ⟨a, c, h, _⟩ := hIb; exact ⟨a, c, h⟩
  have U0 : Hid (Below w.heap.size w ((w.alloc (.cells #[.int .i64 ea, .slice aa A.length ca] 28)).alloc (.cells #[.int .i64 eb, .slice ab L.length cb] 28))) :=
    ((Below.refl _ w).alloc (Nat.le_refl _) _).alloc (by simp) _
  have A0 : Hid (ChT ((w.alloc (.cells #[.int .i64 ea, .slice aa A.length ca] 28)).alloc (.cells #[.int .i64 eb, .slice ab L.length cb] 28)) w.heap.size ea (.slice aa A.length ca)) :=
    (ChT.fresh w _ _).keep ((Below.refl _ _).alloc (Nat.le_refl _) _) (by simp)
  have B0 : Hid (ChT ((w.alloc (.cells #[.int .i64 ea, .slice aa A.length ca] 28)).alloc (.cells #[.int .i64 eb, .slice ab L.length cb] 28)) (w.heap.size + 1) eb (.slice ab L.length cb)) := by
    have := ChT.fresh (w.alloc (.cells #[.int .i64 ea, .slice aa A.length ca] 28)) eb (.slice ab L.length cb)
    rwa [World.size_alloc] at this
  have HM1 : Hid (∀ u, Below w.heap.size w u → Calls Try.prog 43 #[.agg #[.int .i64 ea, .slice aa A.length ca]] u fun e w' => e = .returned (.bool (decide (ChainV.may ⟨ea, A⟩))) ∧ Below u.heap.size u w') := fun u hu =>
    refmaychain_r ea _ A B u (hIa.keep (hu.mono hB)) (Nat.le_trans hB hu.size) _ rfl
  have HM2 : Hid (∀ u, Below w.heap.size w u → Calls Try.prog 43 #[.agg #[.int .i64 eb, .slice ab L.length cb]] u fun e w' => e = .returned (.bool (decide (ChainV.may ⟨eb, L⟩))) ∧ Below u.heap.size u w') := fun u hu =>
    refmaychain_r eb _ L B u (hIb.keep (hu.mono hB)) (Nat.le_trans hB hu.size) _ rfl
  have HM3 : Hid (∀ u, Below w.heap.size w u → Calls Try.prog 44 #[.agg #[.int .i64 ea, .slice aa A.length ca], .int .i64 n] u fun e w' => e = .returned (.bool (decide (∀ x ∈ A, x < n))) ∧ Below u.heap.size u w') := fun u hu =>
    rhbelow_r ea _ A n B u (hIa.keep (hu.mono hB)) (Nat.le_trans hB hu.size) hla rfl
  have HM4 : Hid (∀ u, Below w.heap.size w u → Calls Try.prog 44 #[.agg #[.int .i64 eb, .slice ab L.length cb], .int .i64 n] u fun e w' => e = .returned (.bool (decide (∀ x ∈ L, x < n))) ∧ Below u.heap.size u w') := fun u hu =>
    rhbelow_r eb _ L n B u (hIb.keep (hu.mono hB)) (Nat.le_trans hB hu.size) hlb rfl
  rw [decide_eq_true h1] at HM1
  rw [decide_eq_true h2] at HM2
  rw [decide_eq_true h3] at HM3
  rw [decide_eq_true h4] at HM4
  have HR := Lib.hid hR
  have HIa := Lib.hid hIa
  have HIb := Lib.hid hIb
  have hAn : A.Nodup := h1.2.2.2.2.2
  have hL1 : 1 ≤ L.length := h2.2.2.1
  have HAN := Lib.hid hAn
  have he0 : wrap64 (ea + 1) = eb := by
    have := h1.1
    have := h1.2.1
    simp only at *
    rw [h5]
    exact IntWalk.wrap64_in _ (by omega)
  obtain ⟨m, hm⟩ : ∃ m, m = L.length := ⟨_, rfl⟩
  have HM := Lib.hid hm
  rw [← hm] at HM2 HM4 hlb hL1 U0 A0 B0 HIb ⊢
  have hneb : (eb != eb) = false := by simp
  clear h1 h2 h3 h4 h5 hIa hIb hR hAn hm
  go_enter Try.func26, Try.ntmps26
  go_wp2_with fail
  refine (HM1.out _ U0.out).mono ?_
  rintro e w1 ⟨rfl, B⟩
  have U1 := Lib.hid (U0.out.trans (B.mono U0.out.size))
  have A1 := Lib.hid (A0.out.keep B A0.out.lt)
  have B1 := Lib.hid (B0.out.keep B B0.out.lt)
  clear B
  obtain ⟨d0, d1, _, _⟩ := B1.out.cells
  go_wp2_with fail
  refine (HM2.out _ U1.out).mono ?_
  rintro e w2 ⟨rfl, B⟩
  have U2 := Lib.hid (U1.out.trans (B.mono U1.out.size))
  have A2 := Lib.hid (A1.out.keep B A1.out.lt)
  have B2 := Lib.hid (B1.out.keep B B1.out.lt)
  clear B d0 d1
  obtain ⟨d0, d1, _, _⟩ := A2.out.cells
  go_wp2_with fail
  refine (HM3.out _ U2.out).mono ?_
  rintro e w3 ⟨rfl, B⟩
  have U3 := Lib.hid (U2.out.trans (B.mono U2.out.size))
  have A3 := Lib.hid (A2.out.keep B A2.out.lt)
  have B3 := Lib.hid (B2.out.keep B B2.out.lt)
  clear B d0 d1
  obtain ⟨d0, d1, _, _⟩ := B3.out.cells
  go_wp2_with fail
  refine (HM4.out _ U3.out).mono ?_
  rintro e w4 ⟨rfl, B⟩
  have U4 := Lib.hid (U3.out.trans (B.mono U3.out.size))
  have A4 := Lib.hid (A3.out.keep B A3.out.lt)
  have B4 := Lib.hid (B3.out.keep B B3.out.lt)
  clear B d0 d1
  obtain ⟨d0, d1, _, _⟩ := A4.out.cells
  obtain ⟨g0, g1, _, _⟩ := B4.out.cells
  go_wp2_with fail
  clear d0 d1 g0 g1 he0 hneb
  go_loopw [7, 8, 9] (fun s7 s8 s9 wr => ∃ (last : Int) (old k : Nat), s7 = .int .i64 last ∧ s8 = .int .i64 old ∧ s9 = .int .i64 k ∧ k ≤ m ∧ old ≤ k ∧
    Hid (-1 ≤ last ∧ last ≤ 1000000 ∧ ((Con A (L.take k) (last + 1).toNat ∧ old = k) ∨ (k = m ∧ (old = 0 → k = 1) ∧ (0 < old → Fol A L) ∧ (old = 0 → L.getD 0 0 ∉ A)))) ∧ Hid (ChT wr w.heap.size ea (.slice aa A.length ca) ∧ ChT wr (w.heap.size + 1) eb (.slice ab m cb) ∧ Below w.heap.size w wr))
    (fun _ _ s9 _ => m - (intOf s9).toNat)
  case atStart => exact ⟨-1, 0, 0, rfl, rfl, rfl, Nat.zero_le _, Nat.le_refl _, ⟨by decide, by decide, .inl ⟨by simpa using con_nil A, rfl⟩⟩, A4.out, B4.out, U4.out⟩
  case round =>
    obtain ⟨last, old, k, rfl, rfl, rfl, hk, hold, HK, HC⟩ := hrel
    obtain ⟨d0, d1, _, _⟩ := HC.out.1.cells
    obtain ⟨g0, g1, _, _⟩ := HC.out.2.1.cells
    by_cases hlt : k < m
    · obtain ⟨b, off, rfl, hb, hc0⟩ := (ints_cell HIb.out).2 k hlt
      have hc := (HC.out.2.2.cell (p := ⟨b, off + k, none⟩) (show b < w.heap.size by omega)).trans hc0
      have k1 : (k : Int) < (m : Int) := by omega
      have k0 : (0 : Int) ≤ (k : Int) := by omega
      obtain ⟨y, hy⟩ : ∃ y, y = L.getD k 0 := ⟨_, rfl⟩
      rw [← hy] at hc
      have HY := Lib.hid hy
      obtain ⟨hl0, hl1, hcs⟩ := HK.out
      obtain ⟨hcon, hok⟩ : Con A (L.take k) (last + 1).toNat ∧ old = k := by
        rcases hcs with h | ⟨e, _⟩
        · exact h
        · omega
      have HCON := Lib.hid hcon
      have HOK := Lib.hid hok
      obtain ⟨P, hP⟩ : ∃ P, P = plcV A y := ⟨_, rfl⟩
      have HPL : Hid (∀ u, Below wr.heap.size wr u → Calls Try.prog 52 #[.agg #[.int .i64 ea, .slice aa A.length ca], .int .i64 y] u fun e w' => e = .returned (.int .i64 P) ∧ Below wr.heap.size wr w') := fun u hu =>
        (rhplace_r ea _ A y B u (HIa.out.keep ((HC.out.2.2.trans (hu.mono HC.out.2.2.size)).mono hB)) (by have := hu.size; have := HC.out.2.2.size; omega) hla hP.symm).mono fun e w' ⟨he, h⟩ => ⟨he, hu.trans (h.mono hu.size)⟩
      have HPP := Lib.hid hP
      have HC0 := Lib.hid hc
      have hbw : b < wr.heap.size := by have := HC.out.2.2.size; omega
      have FX : Hid (∀ u, Below wr.heap.size wr u → u.cell? ⟨b, off + k, none⟩ = some (.int .i64 y) ∧ u.cell? ⟨w.heap.size, 0, none⟩ = some (.int .i64 ea) ∧ u.cell? ⟨w.heap.size, 1, none⟩ = some (.slice aa A.length ca) ∧ u.cell? ⟨w.heap.size + 1, 0, none⟩ = some (.int .i64 eb) ∧ u.cell? ⟨w.heap.size + 1, 1, none⟩ = some (.slice (some ⟨b, off, none⟩) m cb)) := fun u hu =>
        ⟨(hu.cell (p := ⟨b, off + k, none⟩) hbw).trans HC0.out, (HC.out.1.keep hu HC.out.1.lt).cells.1, (HC.out.1.keep hu HC.out.1.lt).cells.2.1, (HC.out.2.1.keep hu HC.out.2.1.lt).cells.1, (HC.out.2.1.keep hu HC.out.2.1.lt).cells.2.1⟩
      have P0 : Below wr.heap.size wr wr.drew := (Below.refl _ _).drew
      clear hy hc0 hcs hcon hok hP HK hc hbw
      go_wp2_with fail
      clear d0 d1 g0 g1
      refine region_quiet (fun v => Below wr.heap.size wr v) (by kernel_rfl) (by kernel_rfl) P0 ?_
      repeat (first
        | go_big_quiet_skip
        | (go_big_quiet_want
           (first
            | (refine quiet_run (v := ?_) ?_ ?_; rotate_left; (intro u hu; obtain ⟨z0, z1, z2, z3, z4⟩ := FX.out u hu; go_simp <;> with_reducible rfl); simp only [Act.put, List.setIfInBounds_toArray, List.set_cons_zero, List.set_cons_succ]; go_big_quiet_on)
            | (refine quiet_enter 52 _ ?_ (fun u hu => (HPL.out u hu).mono fun e u' ⟨he, hb⟩ => ⟨he, hb⟩) ?_; (focus (intro u; first | (go_simp; done) | (go_simp; with_reducible rfl))); simp only [Act.put, List.setIfInBounds_toArray, List.set_cons_zero, List.set_cons_succ]; go_big_quiet_on))))
      refine wpQuiet_nil ?_
      intro w4 h4
      obtain ⟨z0, z1, z2, z3, z4⟩ := FX.out w4 h4
      have HC4 : Hid (ChT w4 w.heap.size ea (.slice aa A.length ca) ∧ ChT w4 (w.heap.size + 1) eb (.slice (some ⟨b, off, none⟩) m cb) ∧ Below w.heap.size w w4) := ⟨HC.out.1.keep h4 HC.out.1.lt, HC.out.2.1.keep h4 HC.out.2.1.lt, HC.out.2.2.trans (h4.mono HC.out.2.2.size)⟩
      clear h4 FX P0 HC HPL HC0
      have hm1 := wrap_down m hlb
      have hkL : k < L.length := by have := HM.out; omega
      by_cases hin : y ∈ A
      · have hpl : P = (A.idxOf y : Int) := by rw [HPP.out]; unfold plcV; rw [if_pos hin]
        obtain ⟨i, hi⟩ : ∃ i, i = A.idxOf y := ⟨_, rfl⟩
        rw [← hi] at hpl
        have hiA : i < A.length := by rw [hi]; exact (mem_getD hin).1
        subst hpl
        by_cases hle : (i : Int) ≤ last
        · have HF : Hid (R = false) := by
            show _ = _
            rw [← HR.out]
            exact decide_eq_false (fol_no hkL HY.out.symm HCON.out (not_drop HAN.out hin (by rw [← hi]; omega)) (fun h => h.2.2 hin))
          clear hin hi
          have hi0 : ¬ ((i : Int) < 0) := by omega
          go_wp2
          go_returns
          exact ⟨ret_bool HF.out.symm, HC4.out.2.2⟩
        · have hd := in_drop hin (p := (last + 1).toNat) (by rw [← hi]; omega)
          have HN : Hid (Con A (L.take (k + 1)) ((i : Int) + 1).toNat) := by
            show Con _ _ _
            have hs := HCON.out.step hd.1
            rw [take_snoc L k hkL, ← HY.out]
            have e : ((i : Int) + 1).toNat = (last + 1).toNat + ((A.drop (last + 1).toNat).idxOf y + 1) := by
              have := hd.2
              rw [← hi] at this
              omega
            rw [e]
            exact hs
          have hle' : last < (i : Int) := by omega
          have hi0 : ¬ ((i : Int) < 0) := by omega
          have hok := HOK.out
          have how := wrap_up old (Nat.le_trans hold (Nat.le_trans hk hlb))
          clear hin hi hd hle hok
          go_wp2
          go_roundw
          case rel =>
            have e8 : Value.int .i64 (wrap64 ((old : Int) + 1)) = .int .i64 ((old + 1 : Nat) : Int) := by rw [how]; rfl
            clear how hm1
            exact ⟨i, old + 1, k + 1, rfl, e8, by go_num, by omega, by omega, ⟨by omega, by omega, .inl ⟨HN.out, by rw [HOK.out]⟩⟩, HC4.out⟩
          case measure => simp [intOf]; omega
      · have hpl : P = -1 := by rw [HPP.out]; unfold plcV; rw [if_neg hin]
        subst hpl
        have hnd : y ∉ A.drop (last + 1).toNat := fun h => hin (List.mem_of_mem_drop h)
        by_cases hkm : k + 1 = m
        · have hkk : (k : Int) = (m : Int) - 1 := by omega
          have hkb : ((k : Int) != (m : Int) - 1) = false := by simp [hkk]
          have HN : Hid ((old = 0 → k + 1 = 1) ∧ (0 < old → Fol A L) ∧ (old = 0 → L.getD 0 0 ∉ A)) := by
            have h1 := HOK.out
            refine ⟨fun h => by omega, fun h => fol_new (k := k) (by omega) (by have := HM.out; omega) HCON.out (by rw [← HY.out]; exact hin), fun h => ?_⟩
            obtain rfl : k = 0 := by omega
            rw [← HY.out]
            exact hin
          clear hin hnd hkk
          go_wp2
          go_roundw
          case rel =>
            clear hm1
            exact ⟨last, old, k + 1, rfl, rfl, by go_num, by omega, by omega, ⟨by omega, by omega, .inr ⟨hkm, HN.out⟩⟩, HC4.out⟩
          case measure => simp [intOf]; omega
        · have hkb : ((k : Int) != (m : Int) - 1) = true := by simp; omega
          have HF : Hid (R = false) := by
            show _ = _
            rw [← HR.out]
            exact decide_eq_false (fol_no hkL HY.out.symm HCON.out hnd (fun h => hkm (by have := HM.out; omega)))
          clear hin hnd
          go_wp2
          go_returns
          exact ⟨ret_bool HF.out.symm, HC4.out.2.2⟩
    · have hkm : k = m := by omega
      have HF : Hid (R = decide (0 < old)) := by
        show _ = _
        rw [← HR.out, decide_eq_decide]
        obtain ⟨_, _, hcs⟩ := HK.out
        have hm := HM.out
        rcases hcs with ⟨hc, ho⟩ | ⟨_, h0, hF, hn⟩
        · rw [List.take_of_length_le (by omega)] at hc
          exact ⟨fun _ => by omega, fun _ => fol_all (by omega) hc⟩
        · constructor
          · intro h
            rcases Nat.eq_zero_or_pos old with e | e
            · exact absurd h (fol_no (k := 0) (p := 0) (by omega) rfl (con_nil A) (by simpa using hn e) (fun x => by omega))
            · omega
          · intro h
            exact hF (by omega)
      clear hkm
      go_wp2
      go_returns
      exact ⟨ret_bool HF.out.symm, HC.out.2.2⟩

theorem rhfollows_r (ea : Int) (va : Value) (A : List Int) (eb : Int) (vb : Value) (L : List Int) (n : Int) (B : Nat) (w : World) (hIa : Ints w B va A) (hIb : Ints w B vb L) (hB : B ≤ w.heap.size) (hla : A.length ≤ 1000000) (hlb : L.length ≤ 1000000) {R : Bool} (hR : decide (nextC ea A eb L n) = R) :
    Calls Try.prog 26 #[.agg #[.int .i64 ea, va], .agg #[.int .i64 eb, vb], .int .i64 n] w fun e w' => e = .returned (.bool R) ∧ Below w.heap.size w w' := by
  by_cases h : ChainV.may ⟨ea, A⟩ ∧ ChainV.may ⟨eb, L⟩ ∧ (∀ x ∈ A, x < n) ∧ (∀ x ∈ L, x < n) ∧ eb = ea + 1
  · refine rhfollows_yes ea va A eb vb L n B w hIa hIb hB hla hlb h.1 h.2.1 h.2.2.1 h.2.2.2.1 h.2.2.2.2 ?_
    rw [← hR, decide_eq_decide]
    exact ⟨fun k => ⟨h.1, h.2.1, h.2.2.1, h.2.2.2.1, h.2.2.2.2, k⟩, fun k => k.2.2.2.2.2⟩
  · obtain rfl : R = false := by
      rw [← hR]
      exact decide_eq_false fun k => h ⟨k.1, k.2.1, k.2.2.1, k.2.2.2.1, k.2.2.2.2.1⟩
    exact rhfollows_not ea va A eb vb L n B w hIa hIb hB hla hlb h
end Go.Proofs.Ytaaffceanjpmbaa
