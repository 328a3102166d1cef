/-
  GRANTS: New, Veto, told by contract. No condition but that a chain has at most a million nodes.
-/
import Derived.Test.YthinedikgbbmoaaGrantV
namespace Go.Proofs.Ythinedikgbbmoaa
open Go.RowKit

/-! ### New -/
/-- Those below k were promised at t. -/
def grOf (t k : Nat) : Nat → Nat := fun j => if j < k then t + 50 else 0
theorem grOf_zero (t : Nat) : grOf t 0 = fun _ => 0 := by funext j; simp [grOf]
theorem grOf_step (t k : Nat) : upF (grOf t k) k (max (grOf t k k) (t + 50)) = grOf t (k + 1) := by
  funext j
  unfold upF grOf
  rcases Nat.lt_trichotomy j k with h | h | h
  · rw [if_neg (by omega), if_pos h, if_pos (by omega)]
  · subst h
    rw [if_pos rfl, if_neg (by omega), if_pos (by omega)]
    omega
  · rw [if_neg (by omega), if_neg (by omega), if_neg (by omega)]
theorem gr_fresh (w : World) (n t : Nat) (h0 : 0 < n) (h5 : n ≤ 5) : Gr (w.alloc (.cells #[.int .i64 n, .int .i64 t, .int .i64 0, .int .i64 0, .int .i64 0, .int .i64 0, .int .i64 0] 36)) w.heap.size n t (grOf t 0) := by
  rw [grOf_zero]
  exact ⟨heap_alloc_new w _, h0, h5⟩

set_option maxHeartbeats 400000 in
theorem grnew_no (n t : Int) (w : World) (hn : ¬ ((1 ≤ n ∧ n ≤ 5) ∧ 0 ≤ t ∧ t ≤ 1099511627776)) : Calls Try.prog 6 #[.int .i64 n, .int .i64 t] w fun e w' => e = .returned (.tuple #[.pointer none, .int .i64 1]) ∧ w = w' := by
  by_cases h : n < 1
  · clear hn
    go_enter Try.func6, Try.ntmps6
    go_wp2
    go_returns
    exact ⟨rfl, rfl⟩
  · by_cases h9 : 5 < n
    · clear hn
      go_enter Try.func6, Try.ntmps6
      go_wp2
      go_returns
      exact ⟨rfl, rfl⟩
    · by_cases ht : t < 0
      · clear hn
        go_enter Try.func6, Try.ntmps6
        go_wp2
        go_returns
        exact ⟨rfl, rfl⟩
      · have hm : 1099511627776 < t := by omega
        clear hn
        go_enter Try.func6, Try.ntmps6
        go_wp2
        go_returns
        exact ⟨rfl, rfl⟩

set_option maxRecDepth 100000 in
set_option maxHeartbeats 2000000 in
theorem grnew_yes (n t : Nat) (w : World) (h0 : 0 < n) (h5 : n ≤ 5) (ht : t ≤ 1099511627776) : Calls Try.prog 6 #[.int .i64 n, .int .i64 t] w fun e w' => e = .returned (.tuple #[.pointer (some ⟨w.heap.size, 0, none⟩), .int .i64 0]) ∧ Gr w' w.heap.size n t (grOf t n) ∧ Below w.heap.size w w' := by
  have G0 := Lib.hid (gr_fresh w n t h0 h5)
  have B0 : Hid (Below w.heap.size w (w.alloc (.cells #[.int .i64 n, .int .i64 t, .int .i64 0, .int .i64 0, .int .i64 0, .int .i64 0, .int .i64 0] 36))) := (Below.refl _ _).alloc (Nat.le_refl _) _
  have HG : Hid (∀ u k, k < n → Gr u w.heap.size n t (grOf t k) → Below w.heap.size w u → Calls Try.prog 7 #[.pointer (some ⟨w.heap.size, 0, none⟩), .int .i64 t, .int .i64 k] u fun e w' => e = .returned (.bool true) ∧ Hid (Gr w' w.heap.size n t (grOf t (k + 1)) ∧ Below w.heap.size w w')) :=
    fun u k hk hG hB => (grgive_yes hG t k hk (Nat.le_refl _) ht).mono fun e w' ⟨he, hg, ho⟩ => ⟨he, by rw [grOf_step] at hg; exact hg, ho.below hB (fun x hx => by omega) hB.size⟩
  have a1 : ¬ (n : Int) < 1 := by omega
  have a5 : ¬ 5 < (n : Int) := by omega
  have t0 : ¬ (t : Int) < 0 := by omega
  have t1 : ¬ 1099511627776 < (t : Int) := by omega
  have H5 := Lib.hid h5
  clear h0 h5 ht
  go_enter Try.func6, Try.ntmps6
  go_wp2_with fail
  go_loopw [27] (fun s27 wr => ∃ k : Nat, k ≤ n ∧ s27 = .int .i64 k ∧ Hid (Gr wr w.heap.size n t (grOf t k) ∧ Below w.heap.size w wr)) (fun s27 _ => n - (intOf s27).toNat)
  case atStart => exact ⟨0, Nat.zero_le _, rfl, G0.out, B0.out⟩
  case round =>
    obtain ⟨k, hk, rfl, HK⟩ := hrel
    have k5 := H5.out
    by_cases hlt : k < n
    · have k1 : (k : Int) < (n : Int) := by omega
      have HC := Lib.hid (HG.out wr k hlt HK.out.1 HK.out.2)
      go_wp2_with fail
      refine HC.out.mono ?_
      rintro e w1 ⟨rfl, H1⟩
      go_wp2
      go_roundw
      case rel => exact ⟨k + 1, by omega, by go_num, H1.out⟩
      case measure => simp [intOf]; omega
    · have hle : ¬ (k : Int) < (n : Int) := by omega
      obtain rfl : k = n := by omega
      go_wp2
      go_returns
      exact ⟨rfl, HK.out.1, HK.out.2⟩

/-! ### Veto -/
/-- Is one of those that are left out promised until later? -/
def vetoV (n : Nat) (f : Nat → Nat) (t : Int) (F T : List Int) : Bool := decide (∃ k : Nat, k < n ∧ t < (f k : Int) ∧ (k : Int) ∈ F ∧ ¬ (k : Int) ∈ T)

set_option maxHeartbeats 400000 in
theorem grveto_nil (t ea : Int) (aa : Option Addr) (la ca : Nat) (eb : Int) (ab : Option Addr) (lb cb : Nat) (w : World) :
    Calls Try.prog 9 #[.pointer none, .int .i64 t, .agg #[.int .i64 ea, .slice aa la ca], .agg #[.int .i64 eb, .slice ab lb cb]] w fun e w' => e = .returned (.bool true) ∧ Below w.heap.size w w' := by
  have HC := Lib.hid (fun u => grsize_nil u)
  go_enter Try.func9, Try.ntmps9
  go_wp2_with fail
  refine (HC.out _).mono ?_
  rintro e w1 ⟨rfl, rfl⟩
  go_wp2
  go_returns
  exact ⟨rfl, by go_grown⟩

/-- A world behind Veto's beginning: what it works with stands. -/
structure VtW (w u : World) (b n beg : Nat) (f : Nat → Nat) (ea : Int) (va : Value) (eb : Int) (vb : Value) : Prop where
  bel : Below w.heap.size w u
  gr : Gr u b n beg f
  a : ChB u w.heap.size ea va
  b : ChB u (w.heap.size + 1) eb vb
  two : w.heap.size + 2 ≤ u.heap.size
section
variable {w u u' : World} {b n beg : Nat} {f : Nat → Nat} {ea eb : Int} {va vb : Value}
theorem VtW.on (h : VtW w u b n beg f ea va eb vb) (hb : Below u.heap.size u u') : VtW w u' b n beg f ea va eb vb :=
  ⟨h.bel.trans (hb.mono h.bel.size), h.gr.on hb, h.a.keep hb h.a.lt, h.b.keep hb h.b.lt, Nat.le_trans h.two hb.size⟩
theorem VtW.drewN (h : VtW w u b n beg f ea va eb vb) (m : Nat) : VtW w (u.drewN m) b n beg f ea va eb vb := h.on ⟨rfl, rfl, rfl, Nat.le_refl _, fun _ _ => rfl⟩
theorem VtW.start (H : Gr w b n beg f) : VtW w ((w.alloc (.cells #[.int .i64 ea, va] 29)).alloc (.cells #[.int .i64 eb, vb] 29)) b n beg f ea va eb vb := by
  have h1 := (Below.refl w.heap.size w).alloc (Nat.le_refl _) (.cells #[.int .i64 ea, va] 29)
  have e1 : (w.alloc (.cells #[.int .i64 ea, va] 29)).heap.size = w.heap.size + 1 := by simp
  have h2 := (Below.refl _ (w.alloc (.cells #[.int .i64 ea, va] 29))).alloc (Nat.le_refl _) (.cells #[.int .i64 eb, vb] 29)
  refine ⟨h1.trans (h2.mono (by omega)), (H.on h1).on h2, (ChB.fresh w ea va 29).keep h2 (by omega), ?_, by simp⟩
  have := ChB.fresh (w.alloc (.cells #[.int .i64 ea, va] 29)) eb vb 29
  rwa [e1] at this
end

attribute [local go_sem] Oper.semAt_some
set_option maxRecDepth 100000 in
set_option maxHeartbeats 4000000 in
theorem grveto_r {w : World} {b n beg : Nat} {f : Nat → Nat} (H : Gr w b n beg f) (t : Int) (ea : Int) (va : Value) (F : List Int) (hF : F.length ≤ 1000000) (eb : Int) (vb : Value) (T : List Int) (hT : T.length ≤ 1000000) (B : Nat) (hIa : Ints w B va F) (hIb : Ints w B vb T) (hB : B ≤ w.heap.size) {R : Bool} (hR : vetoV n f t F T = R) :
    Calls Try.prog 9 #[.pointer (some ⟨b, 0, none⟩), .int .i64 t, .agg #[.int .i64 ea, va], .agg #[.int .i64 eb, vb]] w fun e w' => e = .returned (.bool R) ∧ Below w.heap.size w w' := by
  have HA : Hid (∀ u (k : Int) (r : Bool), decide (k ∈ F) = r → VtW w u b n beg f ea va eb vb → Calls Try.prog 13 #[.agg #[.int .i64 ea, va], .int .i64 k] u fun e w' => e = .returned (.bool r) ∧ Hid (VtW w w' b n beg f ea va eb vb)) :=
    fun u k r hr hu => (chhas_r ea va F hF k B u (hIa.keep (hu.bel.mono hB)) (Nat.le_trans hB hu.bel.size) hr).mono fun e w' ⟨he, hb⟩ => ⟨he, hu.on hb⟩
  have HB : Hid (∀ u (k : Int) (r : Bool), decide (k ∈ T) = r → VtW w u b n beg f ea va eb vb → Calls Try.prog 13 #[.agg #[.int .i64 eb, vb], .int .i64 k] u fun e w' => e = .returned (.bool r) ∧ Hid (VtW w w' b n beg f ea va eb vb)) :=
    fun u k r hr hu => (chhas_r eb vb T hT k B u (hIb.keep (hu.bel.mono hB)) (Nat.le_trans hB hu.bel.size) hr).mono fun e w' ⟨he, hb⟩ => ⟨he, hu.on hb⟩
  have HS : Hid (∀ u, VtW w u b n beg f ea va eb vb → Calls Try.prog 12 #[.pointer (some ⟨b, 0, none⟩)] u fun e w' => e = .returned (.int .i64 n) ∧ u = w') := fun u hu => grsize_r hu.gr
  have W0 := Lib.hid (VtW.start (ea := ea) (va := va) (eb := eb) (vb := vb) H)
  have HRR := Lib.hid hR
  obtain ⟨aa, ca, rfl⟩ : ∃ a c, va = .slice a F.length c := by obtain ⟨a, c, h, _⟩ := hIa; exact ⟨a, c, h⟩
  obtain ⟨ab, cb, rfl⟩ : ∃ a c, vb = .slice a T.length c := by obtain ⟨a, c, h, _⟩ := hIb; exact ⟨a, c, h⟩
  have n5 : (n : Int) ≤ 5 := by have := H.le; omega
  have n0 : (0 : Int) ≤ (n : Int) := by omega
  have nb : ((n : Int) == 0) = false := beq_eq_false_iff_ne.2 (by have := H.pos; omega)
  have H5 := Lib.hid H.le
  clear H hIa hIb hF hT hB hR
  obtain ⟨W, hW⟩ : ∃ W, W = ((w.alloc (.cells #[.int .i64 ea, .slice aa F.length ca] 29)).alloc (.cells #[.int .i64 eb, .slice ab T.length cb] 29)) := ⟨_, rfl⟩
  rw [← hW] at W0
  have HWW := Lib.hid hW
  obtain ⟨g0, g1⟩ := W0.out.gr.num
  clear hW
  go_enter Try.func9, Try.ntmps9
  go_wp2_with fail
  rw [← HWW.out]
  refine (HS.out _ W0.out).mono ?_
  rintro e w1 ⟨rfl, rfl⟩
  go_wp2_with fail
  go_quiet (fail)
  have WN := Lib.hid (W0.out.drewN nq)
  clear g0 g1 W0 HWW
  generalize W.drewN nq = W1 at WN
  go_wp2_with fail
  go_loopw [23] (fun s23 wr => ∃ k : Nat, k ≤ n ∧ s23 = .int .i64 k ∧ Hid (∀ j, j < k → ¬ (t < (f j : Int) ∧ (j : Int) ∈ F ∧ ¬ (j : Int) ∈ T)) ∧ Hid (VtW w wr b n beg f ea (.slice aa F.length ca) eb (.slice ab T.length cb))) (fun s23 _ => n - (intOf s23).toNat)
  case atStart => exact ⟨0, Nat.zero_le _, rfl, (fun j hj => absurd hj (by omega)), WN.out⟩
  case round =>
    obtain ⟨k, hk, rfl, HK, HV⟩ := hrel
    have k5 := H5.out
    by_cases hlt : k < n
    · have k1 : (k : Int) < (n : Int) := by omega
      have k0 : (0 : Int) ≤ (k : Int) := by omega
      obtain ⟨q0, q1⟩ := HV.out.gr.till (j := k) (by omega)
      have H1 := Lib.hid hlt
      have HK1 : ∀ (_ : ¬ (t < (f k : Int) ∧ (k : Int) ∈ F ∧ ¬ (k : Int) ∈ T)), Hid (∀ j, j < k + 1 → ¬ (t < (f j : Int) ∧ (j : Int) ∈ F ∧ ¬ (j : Int) ∈ T)) := fun h j hj => by
        rcases (show j < k ∨ j = k by omega) with h' | rfl
        · exact HK.out j h'
        · exact h
      have HK1 := Lib.hid HK1
      obtain ⟨fk, hfk⟩ : ∃ x, x = f k := ⟨_, rfl⟩
      have HFK := Lib.hid hfk
      rw [← hfk] at q0
      clear hfk
      by_cases c1 : t < (fk : Int)
      · obtain ⟨d0, d1⟩ := HV.out.a.cells
        have C1 := Lib.hid c1
        by_cases c2 : (k : Int) ∈ F
        · have C2 := Lib.hid c2
          have HC := Lib.hid (HA.out wr k true (decide_eq_true c2) HV.out)
          clear c2 hlt
          go_wp2_with fail
          refine HC.out.mono ?_
          rintro e w2 ⟨rfl, V2⟩
          clear d0 d1 q0 q1
          obtain ⟨d0, d1⟩ := V2.out.b.cells
          by_cases c3 : (k : Int) ∈ T
          · have HC3 := Lib.hid (HB.out w2 k true (decide_eq_true c3) V2.out)
            have HK2 := HK1.out fun h => h.2.2 c3
            clear c3
            go_wp2_with fail
            refine HC3.out.mono ?_
            rintro e w3 ⟨rfl, V3⟩
            go_wp2
            go_roundw
            case rel => exact ⟨k + 1, by have := H1.out; omega, by go_num, HK2.out, V3.out⟩
            case measure => have := H1.out; simp [intOf]; omega
          · have HC3 := Lib.hid (HB.out w2 k false (decide_eq_false c3) V2.out)
            have HX : Hid (R = true) := by
              show _ = _
              rw [← HRR.out]
              exact decide_eq_true ⟨k, H1.out, by rw [← HFK.out]; exact C1.out, C2.out, c3⟩
            clear c3
            go_wp2_with fail
            refine HC3.out.mono ?_
            rintro e w3 ⟨rfl, V3⟩
            go_wp2
            go_returns
            exact ⟨ret_bool HX.out.symm, V3.out.bel⟩
        · have HC := Lib.hid (HA.out wr k false (decide_eq_false c2) HV.out)
          have HK2 := HK1.out fun h => c2 h.2.1
          clear c2 hlt
          go_wp2_with fail
          refine HC.out.mono ?_
          rintro e w2 ⟨rfl, V2⟩
          go_wp2
          go_roundw
          case rel => exact ⟨k + 1, by have := H1.out; omega, by go_num, HK2.out, V2.out⟩
          case measure => have := H1.out; simp [intOf]; omega
      · have HK2 := HK1.out fun h => c1 (by rw [HFK.out]; exact h.1)
        clear hlt
        go_wp2
        go_roundw
        case rel => exact ⟨k + 1, by have := H1.out; omega, by go_num, HK2.out, HV.out⟩
        case measure => have := H1.out; simp [intOf]; omega
    · have hle : ¬ (k : Int) < (n : Int) := by omega
      obtain rfl : k = n := by omega
      have HX : Hid (R = false) := by show _ = _; rw [← HRR.out]; exact decide_eq_false fun ⟨j, hj, h⟩ => HK.out j hj h
      go_wp2
      go_returns
      exact ⟨ret_bool HX.out.symm, HV.out.bel⟩
end Go.Proofs.Ythinedikgbbmoaa
