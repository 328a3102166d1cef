/-
  THE PROGRAM's read AND verdict, of any versions (at most a million).
-/
import Derived.Test.YtenjjgghoacboaaChartR
namespace Go.Proofs.Ytenjjgghoacboaa
open Go.RowKit

theorem ret_same {a b : Value} (h : a = b) : Ending.returned a = .returned b := by rw [h]

theorem read_r (v : Value) (L : List VerV) (B : Nat) (i c r : Int) (d : ByteArray) (HR : Hid (rdV L i = ⟨c, r, d, []⟩)) (w : World) (hV : Vers w B v L) (hB : B ≤ w.heap.size) (hl : L.length ≤ 1000000) :
    Calls Try.prog 122 #[v, .int .i64 i] w fun e w' => e = .returned (.agg #[.int .i64 c, .int .i64 r, .string d, .slice none 0 0]) ∧ Below w.heap.size w w' := by
  obtain ⟨ao, cap, rfl⟩ := hV.shape
  have h := HR.out
  unfold rdV at h
  by_cases ho : i < 1 ∨ (L.length : Int) < i
  · rw [if_pos ho] at h
    obtain ⟨rfl, rfl, rfl⟩ : 2 = c ∧ 0 = r ∧ (⟨#[]⟩ : ByteArray) = d := by simpa using h
    exact read_out ao _ cap i w ho hl
  · obtain ⟨k, rfl⟩ : ∃ k : Nat, i = (k : Int) + 1 := ⟨(i - 1).toNat, by omega⟩
    have hk : k < L.length := by omega
    obtain ⟨b, off, rfl, hb, hc⟩ := hV.at (by omega)
    rw [if_neg ho, show ((k : Int) + 1 - 1).toNat = k by omega] at h
    refine (read_in b off _ cap k (at' L k).gone (at' L k).data w hk hl (fun o => ?_)).mono ?_
    · have hn := (Below.refl B w).alloc hB o
      exact ⟨(hn.cell (p := ⟨b, off + k * 2, none⟩) hb).trans (hc k hk).1, (hn.cell (p := ⟨b, off + k * 2 + 1, none⟩) hb).trans (hc k hk).2⟩
    · rintro e w' ⟨rfl, hbel⟩
      refine ⟨ret_same ?_, hbel⟩
      by_cases hg : (at' L k).gone = true
      · rw [if_pos hg] at h ⊢
        obtain ⟨rfl, rfl, rfl⟩ : 3 = c ∧ (k : Int) + 1 = r ∧ (⟨#[]⟩ : ByteArray) = d := by simpa using h
        rfl
      · rw [if_neg hg] at h ⊢
        obtain ⟨rfl, rfl, rfl⟩ : 1 = c ∧ (k : Int) + 1 = r ∧ (at' L k).data = d := by simpa using h
        rfl

theorem run_code (c r : Int) (d : ByteArray) (w : World) : (Instr.field 48 (.agg #[.int .i64 c, .int .i64 r, .string d, .slice none 0 0]) 0).run Try.prog w = .ok (.int .i64 c) w := by kernel_rfl

/-- The part of the verdict behind the last version's being there. -/
def restV (n : Nat) (mt quota : Int) : Int := if mt ≠ 0 ∧ mt ≠ n then 5 else if quota ≤ n then 6 else 1

set_option maxHeartbeats 1000000 in
set_option maxRecDepth 100000 in
theorem verdict_yes (ao : Option Addr) (n cap : Nat) (cl sq kd id mt : Int) (dt : ByteArray) (quota c r : Int) (d : ByteArray) (w : World) (hn : n ≤ 1000000)
    (hk : (kd = 1 ∧ c ≠ 1) ∨ (kd ≠ 1 ∧ c = 1))
    (HC : Hid (∀ o, Calls Try.prog 122 #[.slice ao n cap, .int .i64 n] (w.alloc o) fun e w' => e = .returned (.agg #[.int .i64 c, .int .i64 r, .string d, .slice none 0 0]) ∧ Below (w.alloc o).heap.size (w.alloc o) w')) :
    Calls Try.prog 120 #[.slice ao n cap, .agg #[.int .i64 cl, .int .i64 sq, .int .i64 kd, .int .i64 id, .int .i64 mt, .string dt], .int .i64 quota] w fun e w' =>
      e = .returned (.int .i64 (restV n mt quota)) ∧ Below w.heap.size w w' := by
  obtain ⟨R, hR⟩ : ∃ R, R = restV n mt quota := ⟨_, rfl⟩
  rw [← hR]
  unfold restV at hR
  by_cases h0 : mt = 0
  · subst h0
    rw [if_neg (by omega)] at hR
    by_cases hq : quota ≤ n
    · rw [if_pos hq] at hR
      subst hR
      rcases hk with ⟨rfl, hc⟩ | ⟨hk, rfl⟩
      case' inl => have b1 : (c == 1) = false := beq_eq_false_iff_ne.2 hc
      case' inl => have b2 : (c != 1) = true := bne_iff_ne.2 hc
      case' inr => have b1 : (kd == 1) = false := beq_eq_false_iff_ne.2 hk
      case' inl => clear hc; have hf := fun u => run_code c r d u
      case' inr => clear hk; have hf := fun u => run_code 1 r d u
      all_goals
        go_enter Try.func120, Try.ntmps120
        go_wp2_with fail
        refine (HC.out _).mono ?_
        rintro e w1 ⟨rfl, B1⟩
        have C1 : Hid (Below w.heap.size w w1) := ((Below.refl _ w).alloc (Nat.le_refl _) _).trans (B1.mono (by simp))
        obtain ⟨c0, c1, c2, c3, c4, c5⟩ := ((ReqB.fresh w _ _ _ _ _ _ 34).keep B1 (by simp)).cells
        clear B1
        go_wp2
        go_returns
        exact ⟨rfl, C1.out⟩
    · rw [if_neg hq] at hR
      subst hR
      have hq' : (n : Int) < quota := by omega
      clear hq
      rcases hk with ⟨rfl, hc⟩ | ⟨hk, rfl⟩
      case' inl => have b1 : (c == 1) = false := beq_eq_false_iff_ne.2 hc
      case' inl => have b2 : (c != 1) = true := bne_iff_ne.2 hc
      case' inr => have b1 : (kd == 1) = false := beq_eq_false_iff_ne.2 hk
      case' inl => clear hc; have hf := fun u => run_code c r d u
      case' inr => clear hk; have hf := fun u => run_code 1 r d u
      all_goals
        go_enter Try.func120, Try.ntmps120
        go_wp2_with fail
        refine (HC.out _).mono ?_
        rintro e w1 ⟨rfl, B1⟩
        have C1 : Hid (Below w.heap.size w w1) := ((Below.refl _ w).alloc (Nat.le_refl _) _).trans (B1.mono (by simp))
        obtain ⟨c0, c1, c2, c3, c4, c5⟩ := ((ReqB.fresh w _ _ _ _ _ _ 34).keep B1 (by simp)).cells
        clear B1
        go_wp2
        go_returns
        exact ⟨rfl, C1.out⟩
  have z1 : (mt == 0) = false := beq_eq_false_iff_ne.2 h0
  have z2 : (mt != 0) = true := bne_iff_ne.2 h0
  by_cases h1 : mt = n
  · rw [if_neg (by omega)] at hR
    have y1 : (mt == (n : Int)) = true := beq_iff_eq.2 h1
    have y2 : (mt != (n : Int)) = false := by rw [h1]; simp
    clear h0 h1
    by_cases hq : quota ≤ n
    · rw [if_pos hq] at hR
      subst hR
      rcases hk with ⟨rfl, hc⟩ | ⟨hk, rfl⟩
      case' inl => have b1 : (c == 1) = false := beq_eq_false_iff_ne.2 hc
      case' inl => have b2 : (c != 1) = true := bne_iff_ne.2 hc
      case' inr => have b1 : (kd == 1) = false := beq_eq_false_iff_ne.2 hk
      case' inl => clear hc; have hf := fun u => run_code c r d u
      case' inr => clear hk; have hf := fun u => run_code 1 r d u
      all_goals
        go_enter Try.func120, Try.ntmps120
        go_wp2_with fail
        refine (HC.out _).mono ?_
        rintro e w1 ⟨rfl, B1⟩
        have C1 : Hid (Below w.heap.size w w1) := ((Below.refl _ w).alloc (Nat.le_refl _) _).trans (B1.mono (by simp))
        obtain ⟨c0, c1, c2, c3, c4, c5⟩ := ((ReqB.fresh w _ _ _ _ _ _ 34).keep B1 (by simp)).cells
        clear B1
        go_wp2
        go_returns
        exact ⟨rfl, C1.out⟩
    · rw [if_neg hq] at hR
      subst hR
      have hq' : (n : Int) < quota := by omega
      clear hq
      rcases hk with ⟨rfl, hc⟩ | ⟨hk, rfl⟩
      case' inl => have b1 : (c == 1) = false := beq_eq_false_iff_ne.2 hc
      case' inl => have b2 : (c != 1) = true := bne_iff_ne.2 hc
      case' inr => have b1 : (kd == 1) = false := beq_eq_false_iff_ne.2 hk
      case' inl => clear hc; have hf := fun u => run_code c r d u
      case' inr => clear hk; have hf := fun u => run_code 1 r d u
      all_goals
        go_enter Try.func120, Try.ntmps120
        go_wp2_with fail
        refine (HC.out _).mono ?_
        rintro e w1 ⟨rfl, B1⟩
        have C1 : Hid (Below w.heap.size w w1) := ((Below.refl _ w).alloc (Nat.le_refl _) _).trans (B1.mono (by simp))
        obtain ⟨c0, c1, c2, c3, c4, c5⟩ := ((ReqB.fresh w _ _ _ _ _ _ 34).keep B1 (by simp)).cells
        clear B1
        go_wp2
        go_returns
        exact ⟨rfl, C1.out⟩
  · rw [if_pos ⟨h0, h1⟩] at hR
    have y1 : (mt == (n : Int)) = false := beq_eq_false_iff_ne.2 h1
    have y2 : (mt != (n : Int)) = true := bne_iff_ne.2 h1
    clear h0 h1
    subst hR
    rcases hk with ⟨rfl, hc⟩ | ⟨hk, rfl⟩
    case' inl => have b1 : (c == 1) = false := beq_eq_false_iff_ne.2 hc
    case' inl => have b2 : (c != 1) = true := bne_iff_ne.2 hc
    case' inr => have b1 : (kd == 1) = false := beq_eq_false_iff_ne.2 hk
    case' inl => clear hc; have hf := fun u => run_code c r d u
    case' inr => clear hk; have hf := fun u => run_code 1 r d u
    all_goals
      go_enter Try.func120, Try.ntmps120
      go_wp2_with fail
      refine (HC.out _).mono ?_
      rintro e w1 ⟨rfl, B1⟩
      have C1 : Hid (Below w.heap.size w w1) := ((Below.refl _ w).alloc (Nat.le_refl _) _).trans (B1.mono (by simp))
      obtain ⟨c0, c1, c2, c3, c4, c5⟩ := ((ReqB.fresh w _ _ _ _ _ _ 34).keep B1 (by simp)).cells
      clear B1
      go_wp2
      go_returns
      exact ⟨rfl, C1.out⟩

set_option maxHeartbeats 1000000 in
set_option maxRecDepth 100000 in
theorem verdict_no (ao : Option Addr) (n cap : Nat) (cl sq kd id mt : Int) (dt : ByteArray) (quota c r : Int) (d : ByteArray) (w : World) (R : Int) (_ : n ≤ 1000000)
    (hk : (kd = 1 ∧ c = 1 ∧ R = 4) ∨ (kd ≠ 1 ∧ c ≠ 1 ∧ R = c))
    (HC : Hid (∀ o, Calls Try.prog 122 #[.slice ao n cap, .int .i64 n] (w.alloc o) fun e w' => e = .returned (.agg #[.int .i64 c, .int .i64 r, .string d, .slice none 0 0]) ∧ Below (w.alloc o).heap.size (w.alloc o) w')) :
    Calls Try.prog 120 #[.slice ao n cap, .agg #[.int .i64 cl, .int .i64 sq, .int .i64 kd, .int .i64 id, .int .i64 mt, .string dt], .int .i64 quota] w fun e w' =>
      e = .returned (.int .i64 R) ∧ Below w.heap.size w w' := by
  rcases hk with ⟨rfl, rfl, rfl⟩ | ⟨hk, hc, rfl⟩
  · have hf := fun u => run_code 1 r d u
    go_enter Try.func120, Try.ntmps120
    go_wp2_with fail
    refine (HC.out _).mono ?_
    rintro e w1 ⟨rfl, B1⟩
    have C1 : Hid (Below w.heap.size w w1) := ((Below.refl _ w).alloc (Nat.le_refl _) _).trans (B1.mono (by simp))
    clear B1
    go_wp2
    go_returns
    exact ⟨rfl, C1.out⟩
  · have b1 : (kd == 1) = false := beq_eq_false_iff_ne.2 hk
    have b2 : (R == 1) = false := beq_eq_false_iff_ne.2 hc
    have b3 : (R != 1) = true := bne_iff_ne.2 hc
    clear hk hc
    have hf := fun u => run_code R r d u
    go_enter Try.func120, Try.ntmps120
    go_wp2_with fail
    refine (HC.out _).mono ?_
    rintro e w1 ⟨rfl, B1⟩
    have C1 : Hid (Below w.heap.size w w1) := ((Below.refl _ w).alloc (Nat.le_refl _) _).trans (B1.mono (by simp))
    clear B1
    go_wp2
    go_returns
    exact ⟨rfl, C1.out⟩

theorem verdict_r (v : Value) (L : List VerV) (B : Nat) (cl sq kd id mt : Int) (dt : ByteArray) (quota R : Int) (HR : Hid (R = verdV L kd mt quota)) (w : World) (hV : Vers w B v L) (hB : B ≤ w.heap.size) (hl : L.length ≤ 1000000) :
    Calls Try.prog 120 #[v, .agg #[.int .i64 cl, .int .i64 sq, .int .i64 kd, .int .i64 id, .int .i64 mt, .string dt], .int .i64 quota] w fun e w' => e = .returned (.int .i64 R) ∧ Below w.heap.size w w' := by
  have hr := HR.out
  obtain ⟨⟨c, r, d, l⟩, hc⟩ : ∃ x, rdV L L.length = x := ⟨_, rfl⟩
  have hl0 := rdV_list L L.length
  rw [hc] at hl0
  simp only at hl0
  subst hl0
  unfold verdV at hr
  rw [hc] at hr
  simp only at hr
  have HC : Hid (∀ o, Calls Try.prog 122 #[v, .int .i64 L.length] (w.alloc o) fun e w' => e = .returned (.agg #[.int .i64 c, .int .i64 r, .string d, .slice none 0 0]) ∧ Below (w.alloc o).heap.size (w.alloc o) w') :=
    fun o => read_r v L B L.length c r d hc (w.alloc o) (hV.keep ((Below.refl B w).alloc hB o)) (by simp; omega) hl
  obtain ⟨ao, cap, rfl⟩ := hV.shape
  by_cases h1 : kd = 1 ∧ c = 1
  · rw [if_pos h1] at hr
    exact verdict_no ao _ cap cl sq kd id mt dt quota c r d w R hl (.inl ⟨h1.1, h1.2, hr⟩) HC
  · rw [if_neg h1] at hr
    by_cases h2 : kd ≠ 1 ∧ c ≠ 1
    · rw [if_pos h2] at hr
      exact verdict_no ao _ cap cl sq kd id mt dt quota c r d w R hl (.inr ⟨h2.1, h2.2, hr⟩) HC
    · rw [if_neg h2] at hr
      obtain rfl : R = restV L.length mt quota := hr
      exact verdict_yes ao _ cap cl sq kd id mt dt quota c r d w hl (by omega) HC
end Go.Proofs.Ytenjjgghoacboaa
