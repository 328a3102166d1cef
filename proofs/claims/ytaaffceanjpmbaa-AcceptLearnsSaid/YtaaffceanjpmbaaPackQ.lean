/-
  WHAT A READER DOES: isWrong, Num, Text, Yes, End behind any calls, each as a plain function of what is left. No condition but that lengths stay below 2^47.
-/
import Derived.Test.YtaaffceanjpmbaaPackN
namespace Go.Proofs.Ytaaffceanjpmbaa
open Go.RowKit

theorem cell_of_two0 {w : World} {b : Nat} {u v : Value} {t : TypeId} (h : w.heap[b]? = some (.cells #[u, v] t (0, 0))) : w.cell? ⟨b, 0, none⟩ = some u := by simp [World.cell?, h]
theorem cell_of_two1 {w : World} {b : Nat} {u v : Value} {t : TypeId} (h : w.heap[b]? = some (.cells #[u, v] t (0, 0))) : w.cell? ⟨b, 1, none⟩ = some v := by simp [World.cell?, h]
theorem free_of_two {w : World} {b : Nat} {u v : Value} {t : TypeId} (h : w.heap[b]? = some (.cells #[u, v] t (0, 0))) (o : Nat) : w.frozen? ⟨b, o, none⟩ = false := by simp [World.frozen?, h]
theorem two_setCell0 {w : World} {b : Nat} {u v x : Value} {t : TypeId} (h : w.heap[b]? = some (.cells #[u, v] t (0, 0))) : (w.setCell ⟨b, 0, none⟩ x).heap[b]? = some (.cells #[x, v] t (0, 0)) := by
  have hlt := lt_of_block h
  have h' : w.heap[b] = .cells #[u, v] t (0, 0) := by simpa [Array.getElem?_eq_getElem hlt] using h
  show (w.heap.modify b _)[b]? = _
  rw [Array.getElem?_eq_getElem (by simpa using hlt), Array.getElem_modify_self, h']
  rfl
theorem two_setCell1 {w : World} {b : Nat} {u v x : Value} {t : TypeId} (h : w.heap[b]? = some (.cells #[u, v] t (0, 0))) : (w.setCell ⟨b, 1, none⟩ x).heap[b]? = some (.cells #[u, x] t (0, 0)) := by
  have hlt := lt_of_block h
  have h' : w.heap[b] = .cells #[u, v] t (0, 0) := by simpa [Array.getElem?_eq_getElem hlt] using h
  show (w.heap.modify b _)[b]? = _
  rw [Array.getElem?_eq_getElem (by simpa using hlt), Array.getElem_modify_self, h']
  rfl

theorem grownBy_setCell (w : World) (b o : Nat) (x : Value) : w.grownBy (w.setCell ⟨b, o, none⟩ x) (some b) :=
  ⟨rfl, rfl, rfl, by simp [World.setCell], fun k _ hk => Below.heap_setCell _ _ _ _ (fun e => hk (by rw [e]))⟩

theorem grownBy_trans {a b c : World} {row : Option Nat} (h1 : a.grownBy b row) (h2 : b.grownBy c row) : a.grownBy c row :=
  ⟨h2.os.trans h1.os, h2.tape.trans h1.tape, h2.output.trans h1.output, Nat.le_trans h1.size h2.size, fun k hk hne => (h2.block k (Nat.lt_of_lt_of_le hk h1.size) hne).trans (h1.block k hk hne)⟩

theorem below_setCell (w : World) (h o : Nat) (x : Value) : Below h w (w.setCell ⟨h, o, none⟩ x) := (Below.refl h w).setCell (p := ⟨h, o, none⟩) (Nat.le_refl h) x

theorem grown_below {w w' : World} {h B : Nat} (hg : w.grownBy w' (some h)) (hB : B ≤ h) (hs : h < w.heap.size) : Below B w w' :=
  (Below.refl _ _).grown hg (by omega) (fun k hk => by simp at hk; omega)

set_option maxHeartbeats 400000 in
theorem iswrong_any {lo : Nat} (h : Nat) (st : Option (List UInt8)) (w : World) (hR : RdrL lo w h st) :
    Calls Try.prog 74 #[.pointer (some ⟨h, 0, none⟩)] w fun e w' => e = .returned (.bool st.isNone) ∧ w = w' := by
  cases st with
  | none =>
    obtain ⟨v, e, hb⟩ := hR
    have c1 := cell_of_two1 hb
    clear hb
    go_enter Try.func74, Try.ntmps74
    go_wp2
    go_returns
    exact ⟨rfl, rfl⟩
  | some l =>
    obtain ⟨v, e, hb, _⟩ := hR
    have c1 := cell_of_two1 hb
    clear hb
    go_enter Try.func74, Try.ntmps74
    go_wp2
    go_returns
    exact ⟨rfl, rfl⟩

set_option maxHeartbeats 400000 in
theorem iswrong_nil (w : World) : Calls Try.prog 74 #[.pointer none] w fun e w' => e = .returned (.bool true) ∧ w = w' := by
  go_enter Try.func74, Try.ntmps74
  go_wp2
  go_returns
  exact ⟨rfl, rfl⟩

set_option maxHeartbeats 400000 in
theorem rnum_nil (x : Int) (w : World) : Calls Try.prog 73 #[.pointer none, .int .u64 x] w fun e w' => e = .returned (.int .u64 0) ∧ w = w' := by
  go_enter Try.func73, Try.ntmps73
  go_wp2_with (go_at_call 74; refine (iswrong_nil _).mono ?_; rintro e w' ⟨rfl, rfl⟩)
  go_returns
  exact ⟨rfl, rfl⟩

theorem firstnum_any (v : Value) (B : Nat) (l : List UInt8) (w : World) (hB : Byt w B v l) (hm : l.length ≤ 140737488355328) :
    Calls Try.prog 90 #[v] w fun e w' => e = .returned (.tuple #[.int .u64 (numRes (numAt 0 0 l)).1, .int .i64 (numRes (numAt 0 0 l)).2]) ∧ w = w' := by
  obtain ⟨ao, cap, rfl, h1, h2, h3, h4⟩ := hB
  by_cases hl : l = []
  · subst hl
    exact firstnum_nil ao cap w
  · obtain ⟨b, off, rfl, _, hc⟩ := h4 hl
    exact firstnum_some b off _ cap l w rfl hm hc

/-- Left is cut at its front: what it holds then. -/
theorem byt_drop {w : World} {B b off cap k : Nat} {l : List UInt8} (h : Byt w B (.slice (some ⟨b, off, none⟩) l.length cap) l) (hk : k < cap) (hkl : k ≤ l.length) :
    Byt w B (.slice (some ⟨b, off + k, none⟩) (l.length - k) (cap - k)) (l.drop k) := by
  obtain ⟨ao, cap', he, h1, h2, h3, h4⟩ := h
  simp only [Value.slice.injEq] at he
  obtain ⟨rfl, _, rfl⟩ := he
  refine ⟨_, _, by rw [List.length_drop], by rw [List.length_drop]; omega, by omega, fun e => by simp at e, fun hd => ?_⟩
  have hl : l ≠ [] := fun e => hd (by rw [e]; simp)
  obtain ⟨b', off', he, hb, hc⟩ := h4 hl
  simp only [Option.some.injEq, Addr.mk.injEq, and_true] at he
  obtain ⟨rfl, rfl⟩ := he
  refine ⟨_, _, rfl, hb, fun j hj => ?_⟩
  rw [List.length_drop] at hj
  rw [Nat.add_assoc, hc (k + j) (by omega)]
  simp [List.getD]

theorem byt_end {w : World} {B : Nat} (ao : Option Addr) (cap : Nat) (h2 : cap ≤ maxLen) (h3 : ao = none → cap = 0) : Byt w B (.slice ao 0 cap) [] :=
  ⟨ao, cap, rfl, Nat.zero_le _, h2, h3, fun h => absurd rfl h⟩

theorem ret_u64 {a b : Int} (h : a = b) : Ending.returned (.int .u64 a) = .returned (.int .u64 b) := by rw [h]

set_option maxHeartbeats 2000000 in
theorem rnum_any {lo : Nat} (h : Nat) (st : Option (List UInt8)) (most : Nat) (w : World) (hR : RdrL lo w h st) (hm : ∀ l, st = some l → l.length ≤ 140737488355328) :
    Calls Try.prog 73 #[.pointer (some ⟨h, 0, none⟩), .int .u64 most] w fun e w' => e = .returned (.int .u64 (rNum most st).1) ∧ RdrL lo w' h (rNum most st).2 ∧ w.grownBy w' (some h) := by
  cases st with
  | none =>
    have HR := Lib.hid hR
    have HW := Lib.hid (iswrong_any h none w hR)
    clear hR hm
    go_enter Try.func73, Try.ntmps73
    go_wp2_with (go_at_call 74; refine HW.out.mono ?_; rintro e w' ⟨rfl, rfl⟩)
    go_returns
    exact ⟨rfl, HR.out, World.grownBy.refl _ _⟩
  | some l =>
    have HW := Lib.hid (iswrong_any h (some l) w hR)
    obtain ⟨v, e, hb, hB, hpl⟩ := hR
    have hl := hm l rfl
    have HF := Lib.hid (firstnum_any v h l w hB hl)
    have c0 := cell_of_two0 hb
    have c1 := cell_of_two1 hb
    have f0 := free_of_two hb 0
    have f1 := free_of_two hb 1
    have HB := Lib.hid hb
    clear hb hm
    cases hna : numAt 0 0 l with
    | none =>
      rw [hna] at HF
      have HE : Hid (rNum most (some l) = (0, none)) := by show _ = _; simp only [rNum, hna]
      clear hna
      go_enter Try.func73, Try.ntmps73
      go_wp2_with (first | (go_at_call 74; refine HW.out.mono ?_; rintro e w' ⟨rfl, rfl⟩) | (go_at_call 90; refine HF.out.mono ?_; rintro e w' ⟨rfl, rfl⟩; simp only [numRes]))
      go_returns
      rw [HE.out]
      exact ⟨rfl, ⟨_, _, two_setCell1 HB.out⟩, grownBy_setCell _ _ _ _⟩
    | some x =>
      obtain ⟨V, n⟩ := x
      rw [hna] at HF
      have hz := numAt_zero l V n hna
      have hn0 := hz.2.2.1
      have hnl := hz.2.2.2
      clear hz
      have hz0 : ((n : Int) == 0) = false := by simp; omega
      by_cases hmost : V ≤ most
      · have HE : Hid (rNum most (some l) = (V, some (l.drop n))) := by show _ = _; simp only [rNum, hna, if_pos hmost]
        clear hna
        have hgt : ¬ most < V := by omega
        obtain ⟨ao, cap, rfl, h1, h2, h3, h4⟩ := hB
        obtain ⟨b, off, rfl, hbh, hc⟩ := h4 (fun e => by subst e; simp at hnl; omega)
        have hlob := plain_lo hpl
        clear hpl
        have HBy : Hid (Byt w h (.slice (some ⟨b, off, none⟩) l.length cap) l) := ⟨_, _, rfl, h1, h2, h3, fun _ => ⟨b, off, rfl, hbh, hc⟩⟩
        clear h3 h4 hc
        by_cases hcap : n < cap
        · go_enter Try.func73, Try.ntmps73
          go_wp2_with (first | (go_at_call 74; refine HW.out.mono ?_; rintro e w' ⟨rfl, rfl⟩) | (go_at_call 90; refine HF.out.mono ?_; rintro e w' ⟨rfl, rfl⟩; simp only [numRes]))
          go_returns
          rw [HE.out]
          exact ⟨rfl, ⟨_, _, two_setCell0 HB.out, (byt_drop HBy.out hcap hnl).keep (below_setCell _ _ _ _), .inr ⟨_, _, _, _, rfl, hlob⟩⟩, grownBy_setCell _ _ _ _⟩
        · have hcn : cap = n := by omega
          subst hcn
          have hnl' : cap = l.length := by omega
          have HL := Lib.hid hnl'
          clear hnl' hcap
          go_enter Try.func73, Try.ntmps73
          go_wp2_with (first | (go_at_call 74; refine HW.out.mono ?_; rintro e w' ⟨rfl, rfl⟩) | (go_at_call 90; refine HF.out.mono ?_; rintro e w' ⟨rfl, rfl⟩; simp only [numRes]))
          go_returns
          rw [HE.out]
          have e1 : l.drop cap = [] := List.drop_eq_nil_of_le (by rw [HL.out]; exact Nat.le_refl _)
          refine ⟨rfl, ?_, grownBy_setCell _ _ _ _⟩
          simp only
          rw [e1]
          refine ⟨_, _, two_setCell0 HB.out, ?_, .inr ⟨_, _, _, _, rfl, hlob⟩⟩
          exact byt_end _ _ (Nat.zero_le _) (fun e => by simp at e)
      · have HE : Hid (rNum most (some l) = (0, none)) := by show _ = _; simp only [rNum, hna, if_neg hmost]
        clear hna
        have hgt : most < V := by omega
        go_enter Try.func73, Try.ntmps73
        go_wp2_with (first | (go_at_call 74; refine HW.out.mono ?_; rintro e w' ⟨rfl, rfl⟩) | (go_at_call 90; refine HF.out.mono ?_; rintro e w' ⟨rfl, rfl⟩; simp only [numRes]))
        go_returns
        rw [HE.out]
        exact ⟨rfl, ⟨_, _, two_setCell1 HB.out⟩, grownBy_setCell _ _ _ _⟩

set_option maxHeartbeats 400000 in
theorem rend_nil (w : World) : Calls Try.prog 49 #[.pointer none] w fun e w' => e = .returned (.int .i64 2) ∧ w = w' := by
  go_enter Try.func49, Try.ntmps49
  go_wp2_with (go_at_call 74; refine (iswrong_nil _).mono ?_; rintro e w' ⟨rfl, rfl⟩)
  go_returns
  exact ⟨rfl, rfl⟩

set_option maxHeartbeats 1000000 in
theorem rend_any {lo : Nat} (h : Nat) (st : Option (List UInt8)) (w : World) (hR : RdrL lo w h st) (hm : ∀ l, st = some l → l.length ≤ 140737488355328) :
    Calls Try.prog 49 #[.pointer (some ⟨h, 0, none⟩)] w fun e w' => e = .returned (.int .i64 (rEnd st)) ∧ w = w' := by
  have HW := Lib.hid (iswrong_any h st w hR)
  cases st with
  | none =>
    clear hR hm
    go_enter Try.func49, Try.ntmps49
    go_wp2_with (go_at_call 74; refine HW.out.mono ?_; rintro e w' ⟨rfl, rfl⟩)
    go_returns
    exact ⟨rfl, rfl⟩
  | some l =>
    obtain ⟨v, e, hb, ⟨ao, cap, rfl, _⟩, _⟩ := hR
    have c0 := cell_of_two0 hb
    have hl := hm l rfl
    clear hb hm
    cases l with
    | nil =>
      go_enter Try.func49, Try.ntmps49
      go_wp2_with (go_at_call 74; refine HW.out.mono ?_; rintro e w' ⟨rfl, rfl⟩)
      go_returns
      exact ⟨rfl, rfl⟩
    | cons c r =>
      go_enter Try.func49, Try.ntmps49
      go_wp2_with (go_at_call 74; refine HW.out.mono ?_; rintro e w' ⟨rfl, rfl⟩)
      go_returns
      exact ⟨rfl, rfl⟩

theorem rend_ok {lo : Nat} (h : Nat) (w : World) (hR : RdrL lo w h (some [])) : Calls Try.prog 49 #[.pointer (some ⟨h, 0, none⟩)] w fun e w' => e = .returned (.int .i64 0) ∧ w = w' :=
  rend_any h (some []) w hR (by intro l hl; cases hl; simp)
theorem rend_bad {lo : Nat} (h : Nat) (w : World) (hR : RdrL lo w h none) : Calls Try.prog 49 #[.pointer (some ⟨h, 0, none⟩)] w fun e w' => e = .returned (.int .i64 2) ∧ w = w' :=
  rend_any h none w hR (by intro l hl; cases hl)

set_option maxHeartbeats 400000 in
theorem ryes_nil (w : World) : Calls Try.prog 48 #[.pointer none] w fun e w' => e = .returned (.bool false) ∧ w = w' := by
  go_enter Try.func48, Try.ntmps48
  go_wp2_with (go_at_call 73; refine (rnum_nil _ _).mono ?_; rintro e w' ⟨rfl, rfl⟩)
  go_returns
  exact ⟨rfl, rfl⟩

theorem ret_bool {a b : Bool} (h : a = b) : Ending.returned (.bool a) = .returned (.bool b) := by rw [h]
theorem ret_num {a b : Int} (h : a = b) : Ending.returned (.int .i64 a) = .returned (.int .i64 b) := by rw [h]

set_option maxHeartbeats 1000000 in
theorem ryes_any {lo : Nat} (h : Nat) (st : Option (List UInt8)) (w : World) (hR : RdrL lo w h st) (hm : ∀ l, st = some l → l.length ≤ 140737488355328) :
    Calls Try.prog 48 #[.pointer (some ⟨h, 0, none⟩)] w fun e w' => e = .returned (.bool (rYes st).1) ∧ RdrL lo w' h (rYes st).2 ∧ w.grownBy w' (some h) := by
  have H := Lib.hid (rnum_any h st 1 w hR hm)
  obtain ⟨V, hV⟩ : ∃ V, V = (rNum 1 st).1 := ⟨_, rfl⟩
  rw [← hV] at H
  have e1 : (rYes st).1 = decide (V = 1) := by rw [hV]; rfl
  have e2 : (rYes st).2 = (rNum 1 st).2 := rfl
  rw [e1, e2]
  clear hR hm e1 e2 hV
  go_enter Try.func48, Try.ntmps48
  go_wp2_with (go_at_call 73; refine H.out.mono ?_; rintro e w' ⟨rfl, h1, h2⟩)
  go_returns
  exact ⟨ret_bool (by rw [Bool.eq_iff_iff]; simp; omega), h1, h2⟩


theorem byt_take {w : World} {B b off cap k : Nat} {l : List UInt8} (h : Byt w B (.slice (some ⟨b, off, none⟩) l.length cap) l) (hkl : k ≤ l.length) :
    Byt w B (.slice (some ⟨b, off, none⟩) k cap) (l.take k) := by
  obtain ⟨ao, cap', he, h1, h2, h3, h4⟩ := h
  simp only [Value.slice.injEq] at he
  obtain ⟨rfl, _, rfl⟩ := he
  have hlen : (l.take k).length = k := by rw [List.length_take]; omega
  refine ⟨_, _, by rw [hlen], by rw [hlen]; omega, h2, fun e => by simp at e, fun hd => ?_⟩
  have hl : l ≠ [] := fun e => hd (by rw [e]; simp)
  obtain ⟨b', off', he, hb, hc⟩ := h4 hl
  simp only [Option.some.injEq, Addr.mk.injEq, and_true] at he
  obtain ⟨rfl, rfl⟩ := he
  refine ⟨_, _, rfl, hb, fun j hj => ?_⟩
  rw [hlen] at hj
  rw [hc j (by omega)]
  simp [List.getD, hj]

set_option maxHeartbeats 1000000 in
theorem rtext_any {lo : Nat} (h : Nat) (st : Option (List UInt8)) (most : Int) (M : Nat) (hM : M ≤ 9223372036854775807) (hmm : (most < 0 ∧ M = 0) ∨ most = (M : Int)) (w : World) (hR : RdrL lo w h st) (hm : ∀ l, st = some l → l.length ≤ 140737488355328) :
    Calls Try.prog 72 #[.pointer (some ⟨h, 0, none⟩), .int .i64 most] w fun e w' => e = .returned (.string ⟨(rText M st).1.toArray⟩) ∧ RdrL lo w' h (rText M st).2 ∧ w.grownBy w' (some h) := by
  have H := Lib.hid (rnum_any h st M w hR hm)
  have hm2 : ∀ l, (rNum M st).2 = some l → l.length ≤ 140737488355328 := by
    intro l hl
    cases st with
    | none => simp [rNum] at hl
    | some l0 =>
      simp only [rNum] at hl
      split at hl
      · cases hl
      · split at hl
        · simp only [Option.some.injEq] at hl
          subst hl
          have := hm l0 rfl
          simp; omega
        · cases hl
  clear hR hm
  unfold rText
  obtain ⟨V, hV⟩ : ∃ V, V = (rNum M st).1 := ⟨_, rfl⟩
  obtain ⟨st1, hst1⟩ : ∃ x, x = (rNum M st).2 := ⟨_, rfl⟩
  have e0 : rNum M st = (V, st1) := by rw [hV, hst1]
  rw [e0] at H hm2 ⊢
  simp only at H hm2
  clear hV hst1 e0
  cases st1 with
  | none =>
    rcases hmm with ⟨hn, rfl⟩ | rfl
    all_goals
      go_enter Try.func72, Try.ntmps72
      go_wp2_with fail
      refine H.out.mono ?_
      rintro e w1 ⟨rfl, h1, h2⟩
      have HW := Lib.hid (iswrong_any h none w1 h1)
      have H1 := Lib.hid h1
      clear h1
      go_wp2_with (go_at_call 74; refine HW.out.mono ?_; rintro e w' ⟨rfl, rfl⟩)
      go_returns
      exact ⟨rfl, H1.out, h2⟩
  | some l =>
    have hl := hm2 l rfl
    clear hm2
    by_cases hVl : V ≤ l.length
    · have HE : Hid (rTextOf (V, some l) = (l.take V, some (l.drop V))) := by show _ = _; simp only [rTextOf, if_pos hVl]
      have hgt : ¬ l.length < V := by omega
      rcases hmm with ⟨hn, rfl⟩ | rfl
      all_goals
        go_enter Try.func72, Try.ntmps72
        go_wp2_with fail
        refine H.out.mono ?_
        rintro e w1 ⟨rfl, h1, h2⟩
        have HW := Lib.hid (iswrong_any h (some l) w1 h1)
        obtain ⟨v, e, hb, hB, hp⟩ := h1
        have f0 := free_of_two hb 0
        have c1 := cell_of_two1 hb
        have HB := Lib.hid hb
        have c0 := cell_of_two0 hb
        clear hb
        rcases hp with rfl | ⟨b, off, n, cap, rfl, hlob⟩
        · have hl0 : l = [] := by
            obtain ⟨ao, cap, he, _⟩ := hB
            simp only [Value.slice.injEq] at he
            exact List.eq_nil_of_length_eq_zero he.2.1.symm
          subst hl0
          have hV0 : V = 0 := by simpa using hVl
          subst hV0
          have hk := run_conv_byt hB
          go_wp2_with (go_at_call 74; refine HW.out.mono ?_; rintro e w' ⟨rfl, rfl⟩)
          go_returns
          rw [HE.out]
          exact ⟨rfl, ⟨_, _, two_setCell0 HB.out, Byt.none _ _, .inl rfl⟩, grownBy_trans h2 (grownBy_setCell _ _ _ _)⟩
        · obtain ⟨ao, cap', he, h3, h4, _⟩ := id hB
          simp only [Value.slice.injEq] at he
          obtain ⟨rfl, rfl, rfl⟩ := he
          have hk := run_conv_byt (byt_take hB hVl)
          have HBy := Lib.hid hB
          clear hB
          by_cases hcap : V < cap
          · go_wp2_with (go_at_call 74; refine HW.out.mono ?_; rintro e w' ⟨rfl, rfl⟩)
            go_returns
            rw [HE.out]
            exact ⟨rfl, ⟨_, _, two_setCell0 HB.out, (byt_drop HBy.out hcap hVl).keep (below_setCell _ _ _ _), .inr ⟨_, _, _, _, rfl, hlob⟩⟩, grownBy_trans h2 (grownBy_setCell _ _ _ _)⟩
          · have hcn : cap = V := by omega
            subst hcn
            have hnl' : cap = l.length := by omega
            have HL := Lib.hid hnl'
            clear hnl' hcap
            go_wp2_with (go_at_call 74; refine HW.out.mono ?_; rintro e w' ⟨rfl, rfl⟩)
            go_returns
            rw [HE.out]
            have e1 : l.drop cap = [] := List.drop_eq_nil_of_le (by rw [HL.out]; exact Nat.le_refl _)
            refine ⟨rfl, ?_, grownBy_trans h2 (grownBy_setCell _ _ _ _)⟩
            simp only
            rw [e1]
            refine ⟨_, _, two_setCell0 HB.out, ?_, .inr ⟨_, _, _, _, rfl, hlob⟩⟩
            exact byt_end _ _ (Nat.zero_le _) (fun e => by simp at e)
    · have hgt : l.length < V := by omega
      have HE : Hid (rTextOf (V, some l) = ([], none)) := by show _ = _; simp only [rTextOf, if_neg hVl]
      rcases hmm with ⟨hn, rfl⟩ | rfl
      all_goals
        go_enter Try.func72, Try.ntmps72
        go_wp2_with fail
        refine H.out.mono ?_
        rintro e w1 ⟨rfl, h1, h2⟩
        have HW := Lib.hid (iswrong_any h (some l) w1 h1)
        obtain ⟨v, e, hb, ⟨ao, cap, rfl, _⟩, _⟩ := h1
        have c0 := cell_of_two0 hb
        have f1 := free_of_two hb 1
        have c1 := cell_of_two1 hb
        have HB := Lib.hid hb
        clear hb
        go_wp2_with (go_at_call 74; refine HW.out.mono ?_; rintro e w' ⟨rfl, rfl⟩)
        go_returns
        rw [HE.out]
        exact ⟨rfl, ⟨_, _, two_setCell1 HB.out⟩, grownBy_trans h2 (grownBy_setCell _ _ _ _)⟩
end Go.Proofs.Ytaaffceanjpmbaa
