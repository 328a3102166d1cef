/-
  THE LOG's Find: a client's places are searched by halves. No condition but that a log has at most a million requests.
-/
import Derived.Test.YtenjjgghoacboaaLnR
namespace Go.Proofs.Ytenjjgghoacboaa
open Go.RowKit

def cmp18 (a b : Int) : Int := if a < b then -1 else if b < a then 1 else 0
set_option maxHeartbeats 400000 in
theorem isnan_r (a : Int) (w : World) : Calls Try.prog 112 #[.int .i64 a] w fun e w' => e = .returned (.bool false) ∧ w = w' := by
  go_enter Try.func112, Try.ntmps112
  go_wp2
  go_returns
  exact ⟨by simp, rfl⟩
set_option maxHeartbeats 1000000 in
theorem cmp_r (a b : Int) (w : World) (M : Int) (hM : Hid (cmp18 a b = M)) : Calls Try.prog 82 #[.int .i64 a, .int .i64 b] w fun e w' => e = .returned (.int .i64 M) ∧ w = w' := by
  have HA := Lib.hid (isnan_r a w)
  have HB := Lib.hid (isnan_r b w)
  have hM' := hM.out
  unfold cmp18 at hM'
  by_cases h1 : a < b
  · rw [if_pos h1] at hM'
    subst hM'
    go_enter Try.func82, Try.ntmps82
    go_wp2_with fail
    refine HA.out.mono ?_
    rintro e w1 ⟨rfl, rfl⟩
    go_wp2_with fail
    refine HB.out.mono ?_
    rintro e w1 ⟨rfl, rfl⟩
    go_wp2
    go_returns
    exact ⟨rfl, rfl⟩
  · rw [if_neg h1] at hM'
    by_cases h2 : b < a
    · rw [if_pos h2] at hM'
      subst hM'
      go_enter Try.func82, Try.ntmps82
      go_wp2_with fail
      refine HA.out.mono ?_
      rintro e w1 ⟨rfl, rfl⟩
      go_wp2_with fail
      refine HB.out.mono ?_
      rintro e w1 ⟨rfl, rfl⟩
      go_wp2
      go_returns
      exact ⟨rfl, rfl⟩
    · rw [if_neg h2] at hM'
      subst hM'
      go_enter Try.func82, Try.ntmps82
      go_wp2_with fail
      refine HA.out.mono ?_
      rintro e w1 ⟨rfl, rfl⟩
      go_wp2_with fail
      refine HB.out.mono ?_
      rintro e w1 ⟨rfl, rfl⟩
      go_wp2
      go_returns
      exact ⟨rfl, rfl⟩

set_option maxHeartbeats 1000000 in
theorem find1_r (R g qb N qc x : Nat) (s sq : Int) (w : World) (hR : w.cell? ⟨R, 0, none⟩ = some (.pointer (some ⟨g, 0, none⟩))) (hg : w.cell? ⟨g, 1, none⟩ = some (.slice (some ⟨qb, 0, none⟩) N qc)) (hx : x < N) (hN : N ≤ 1000000)
    (hq : w.cell? ⟨qb, x * 6 + 1, none⟩ = some (.int .i64 sq)) (M : Int) (hM : cmp18 sq s = M) :
    Calls Try.prog 81 #[.int .i64 ((x : Int) + 1), .int .i64 s, .pointer (some ⟨R, 0, none⟩)] w fun e w' => e = .returned (.int .i64 M) ∧ w = w' := by
  have HC := Lib.hid (cmp_r sq s w M hM)
  have x0 : (0 : Int) ≤ (x : Int) := by omega
  have x1 : (x : Int) < (N : Int) := by omega
  clear hM
  go_enter Try.func81, Try.ntmps81
  go_wp2_with fail
  refine HC.out.mono ?_
  rintro e w1 ⟨rfl, rfl⟩
  go_wp2
  go_returns
  exact ⟨rfl, rfl⟩

/-- What is searched by halves: numbers that rise, each cell told by the closure. -/
structure Seek (w : World) (R : Nat) (s : Int) (a : Option Addr) (P c : Nat) (X sq : Nat → Int) : Prop where
  row : ∀ k, k < P → ∃ b, a = some ⟨b, 0, none⟩ ∧ w.cell? ⟨b, k, none⟩ = some (.int .i64 (X k))
  call : ∀ k, k < P → Calls Try.prog 81 #[.int .i64 (X k), .int .i64 s, .pointer (some ⟨R, 0, none⟩)] w fun e w' => e = .returned (.int .i64 (cmp18 (sq k) s)) ∧ w = w'
  rise : ∀ i j, i < j → j < P → sq i < sq j
  le : P ≤ c
  few : P ≤ 1000000
/-- What is found. -/
structure FoundL (s : Int) (P : Nat) (sq : Nat → Int) (i : Nat) (f : Bool) : Prop where
  le : i ≤ P
  lo : ∀ k, k < i → sq k < s
  hi : ∀ k, i ≤ k → k < P → s ≤ sq k
  is : f = true ↔ i < P ∧ sq i = s
/-- How the search ends. -/
def SeekR (s : Int) (P : Nat) (sq : Nat → Int) (w : World) (e : Ending) (w' : World) : Prop := ∃ i f, e = .returned (.tuple #[.int .i64 (i : Nat), .bool f]) ∧ FoundL s P sq i f ∧ w = w'
theorem SeekR.of {s : Int} {P : Nat} {sq : Nat → Int} {w : World} {e : Ending} {w' : World} (i : Nat) (f : Bool) (he : e = .returned (.tuple #[.int .i64 (i : Nat), .bool f])) (hf : FoundL s P sq i f) (hw : w = w') : SeekR s P sq w e w' := ⟨i, f, he, hf, hw⟩
set_option maxRecDepth 100000 in
set_option maxHeartbeats 2000000 in
theorem search_r (w : World) (R : Nat) (s : Int) (a : Option Addr) (P c : Nat) (X sq : Nat → Int) (H : Seek w R s a P c X sq) :
    Calls Try.prog 80 #[.slice a P c, .int .i64 s, .func (.func 81) #[] #[.pointer (some ⟨R, 0, none⟩)]] w (SeekR s P sq w) := by
  have HS := Lib.hid H
  have hP := H.few
  clear H
  go_enter Try.func80, Try.ntmps80
  go_wp2
  go_loop [9, 10] (fun vi vj => ∃ i j : Nat, vi = .int .i64 i ∧ vj = .int .i64 j ∧ i ≤ j ∧ j ≤ P ∧ Hid ((∀ k, k < i → sq k < s) ∧ ∀ k, j ≤ k → k < P → s ≤ sq k)) (fun vi vj => (intOf vj).toNat - (intOf vi).toNat)
  case atStart => exact ⟨0, P, rfl, rfl, Nat.zero_le _, Nat.le_refl _, ⟨fun k hk => absurd hk (Nat.not_lt_zero _), fun k h1 h2 => by omega⟩⟩
  case round =>
    obtain ⟨i, j, rfl, rfl, hij, hjP, HB⟩ := hrel
    by_cases hlt : i < j
    · have i1 : (i : Int) < (j : Int) := by omega
      obtain ⟨h, hh, hi1, hj1⟩ : ∃ h : Nat, ((i : Int) + (j : Int)) / 2 = (h : Int) ∧ i ≤ h ∧ h < j := ⟨(i + j) / 2, by omega, by omega, by omega⟩
      have HH := Lib.hid hh
      obtain ⟨b, rfl, c0⟩ := HS.out.row h (by omega)
      have HC := Lib.hid (HS.out.call h (by omega))
      have h0 : (0 : Int) ≤ (h : Int) := by omega
      have h1 : (h : Int) < (P : Int) := by omega
      have HR : Hid (∀ x y, x < y → y < P → sq x < sq y) := HS.out.rise
      clear hh HS
      go_upto_region 5 with fail
      rw [HH.out]
      clear HH
      by_cases hcm : sq h < s
      · have e1 : cmp18 (sq h) s = -1 := by unfold cmp18; rw [if_pos hcm]
        rw [e1] at HC
        have HB2 : Hid ((∀ k, k < h + 1 → sq k < s) ∧ ∀ k, j ≤ k → k < P → s ≤ sq k) := by
          refine ⟨fun k hk => ?_, HB.out.2⟩
          rcases (show k = h ∨ k < h by omega) with rfl | hk'
          · exact hcm
          · have := HR.out k h hk' (by omega); omega
        clear hcm e1 HB HR
        go_wp2_with fail
        refine HC.out.mono ?_
        rintro e w1 ⟨rfl, rfl⟩
        go_wp2
        go_round
        case rel => exact ⟨h + 1, j, by go_num, rfl, by omega, hjP, HB2.out⟩
        case measure => simp [intOf]; omega
      · obtain ⟨M, hM⟩ : ∃ M, cmp18 (sq h) s = M := ⟨_, rfl⟩
        have hM0 : ¬ M < 0 := by rw [← hM]; unfold cmp18; rw [if_neg hcm]; split <;> omega
        rw [hM] at HC
        have HB2 : Hid ((∀ k, k < i → sq k < s) ∧ ∀ k, h ≤ k → k < P → s ≤ sq k) := by
          refine ⟨HB.out.1, fun k hk hkP => ?_⟩
          rcases (show k = h ∨ h < k by omega) with rfl | hk'
          · omega
          · have := HR.out h k hk' hkP; omega
        clear hcm hM HB HR
        go_wp2_with fail
        refine HC.out.mono ?_
        rintro e w1 ⟨rfl, rfl⟩
        go_wp2
        go_round
        case rel => exact ⟨i, h, rfl, rfl, by omega, by omega, HB2.out⟩
        case measure => simp [intOf]; omega
    · obtain rfl : i = j := by omega
      by_cases hiP : i < P
      · obtain ⟨b, rfl, c0⟩ := HS.out.row i hiP
        have HC := Lib.hid (HS.out.call i hiP)
        have h0 : (0 : Int) ≤ (i : Int) := by omega
        have h1 : (i : Int) < (P : Int) := by omega
        have h2 := HB.out.2 i (Nat.le_refl _) hiP
        clear HS hlt
        by_cases he : sq i = s
        · have e1 : cmp18 (sq i) s = 0 := by unfold cmp18; rw [if_neg (by omega), if_neg (by omega)]
          rw [e1] at HC
          have HF : Hid (FoundL s P sq i true) := ⟨by omega, HB.out.1, HB.out.2, fun _ => ⟨hiP, he⟩, fun _ => rfl⟩
          clear he e1 HB h2
          go_wp2_with fail
          refine HC.out.mono ?_
          rintro e w1 ⟨rfl, rfl⟩
          go_wp2
          go_returns
          exact SeekR.of i true rfl HF.out rfl
        · have e1 : cmp18 (sq i) s = 1 := by unfold cmp18; rw [if_neg (by omega), if_pos (by omega)]
          rw [e1] at HC
          have HF : Hid (FoundL s P sq i false) := ⟨by omega, HB.out.1, HB.out.2, (fun h => by cases h), fun h => absurd h.2 he⟩
          clear he e1 HB h2
          go_wp2_with fail
          refine HC.out.mono ?_
          rintro e w1 ⟨rfl, rfl⟩
          go_wp2
          go_returns
          exact SeekR.of i false rfl HF.out rfl
      · have h1 : ¬ (i : Int) < (P : Int) := by omega
        have HF : Hid (FoundL s P sq i false) := ⟨by omega, HB.out.1, HB.out.2, (fun h => by cases h), fun h => absurd h.1 hiP⟩
        clear HS hlt HB hiP
        go_wp2
        go_returns
        exact SeekR.of i false rfl HF.out rfl

/-! ### Find -/
/-- What Find tells of a log. -/
def FindOk (L : List ReqV) (c s : Int) (p : Int) (f : Bool) : Prop := (f = true ∧ ∃ k : Nat, p = (k : Int) + 1 ∧ Stands L c s k) ∨ (f = false ∧ p = 0 ∧ ∀ k, ¬ Stands L c s k)
/-- How Find ends. -/
def FindR (L : List ReqV) (c s : Int) (w : World) (e : Ending) (w' : World) : Prop := ∃ p f, e = .returned (.tuple #[.int .i64 p, .bool f]) ∧ FindOk L c s p f ∧ Below w.heap.size w w'
theorem FindR.of {L : List ReqV} {c s : Int} {w : World} {e : Ending} {w' : World} (p : Int) (f : Bool) (he : e = .returned (.tuple #[.int .i64 p, .bool f])) (hf : FindOk L c s p f) (hw : Below w.heap.size w w') : FindR L c s w e w' := ⟨p, f, he, hf, hw⟩
set_option maxRecDepth 100000 in
set_option maxHeartbeats 1000000 in
theorem lfind_none (p : Option Addr) (c s : Int) (a : Option Addr) (cc : Nat) (w : World) (HO : Hid (∀ o, Calls Try.prog 79 #[.pointer p, .int .i64 c] (w.alloc o) fun e w' => e = .returned (.slice a 0 cc) ∧ w.alloc o = w')) :
    Calls Try.prog 45 #[.pointer p, .int .i64 c, .int .i64 s] w fun e w' => e = .returned (.tuple #[.int .i64 0, .bool false]) ∧ Below w.heap.size w w' := by
  have HS : Hid (Calls Try.prog 80 #[.slice a 0 cc, .int .i64 s, .func (.func 81) #[] #[.pointer (some ⟨w.heap.size, 0, none⟩)]] (w.alloc (.cells #[.pointer p] 23)) (SeekR s 0 (fun _ => 0) (w.alloc (.cells #[.pointer p] 23)))) :=
    search_r _ _ s a 0 cc (fun _ => 0) (fun _ => 0) ⟨fun k hk => absurd hk (Nat.not_lt_zero _), fun k hk => absurd hk (Nat.not_lt_zero _), fun i j _ hj => absurd hj (Nat.not_lt_zero _), Nat.zero_le _, Nat.zero_le _⟩
  go_enter Try.func45, Try.ntmps45
  go_wp2_with fail
  refine (HO.out _).mono ?_
  rintro e w1 ⟨rfl, rfl⟩
  go_wp2_with fail
  refine HS.out.mono ?_
  rintro e w1 ⟨i, f, rfl, hf, rfl⟩
  obtain rfl : f = false := by
    cases f
    · rfl
    · have := (hf.is.1 rfl).1; omega
  clear hf
  go_wp2
  go_returns
  exact ⟨rfl, by go_grown⟩
theorem lfind_nil (c s : Int) (w : World) : Calls Try.prog 45 #[.pointer none, .int .i64 c, .int .i64 s] w fun e w' => e = .returned (.tuple #[.int .i64 0, .bool false]) ∧ Below w.heap.size w w' :=
  lfind_none _ _ _ _ _ _ fun _ => lof_nil c _
set_option maxRecDepth 100000 in
set_option maxHeartbeats 2000000 in
theorem lfind_r {w : World} {n g d : Nat} {vq vr : Value} {vp : Nat → Value} {q : Int} {L : List ReqV} {K : List RcV} (H : Lin w n g d vq vr vp q L K) (hL : L.length ≤ 1000000) (c s : Int) :
    Calls Try.prog 45 #[.pointer (some ⟨g, 0, none⟩), .int .i64 c, .int .i64 s] w (FindR L c s w) := by
  by_cases hc : 0 ≤ c ∧ c < 4
  · obtain ⟨k, rfl⟩ : ∃ k : Nat, c = k := ⟨c.toNat, by omega⟩
    have hk4 : k < 4 := by omega
    have H1 := Lib.hid (H.on ((Below.refl _ _).alloc (Nat.le_refl _) (.cells #[.pointer (some ⟨g, 0, none⟩)] 23)))
    have HO := Lib.hid (lof_r H1.out k hk4)
    obtain ⟨a, cc, he⟩ := H.plen hk4
    obtain ⟨P, hP⟩ : ∃ P, P = (clN L k).length := ⟨_, rfl⟩
    rw [he, placesL_len, ← hP] at HO
    have HSK : Hid (Seek (w.alloc (.cells #[.pointer (some ⟨g, 0, none⟩)] 23)) w.heap.size s a P cc (fun j => (((clN L k).getD j 0 : Nat) : Int) + 1) (fun j => (atL L ((clN L k).getD j 0)).seq)) := by
      refine ⟨fun j hj => ?_, fun j hj => ?_, fun i j hij hj => ?_, ?_, ?_⟩
      · have hj' : j < (clN L k).length := by omega
        have hpi : (intCells (placesL L k))[j]? = some (.int .i64 ((((clN L k).getD j 0 : Nat) : Int) + 1)) := by
          simp [intCells, placesL_get L k j hj', hj']
        obtain ⟨b, e, he2, _, hcell⟩ := (H1.out.pl k hk4).cell j _ hpi
        rw [he] at he2
        simp only [Value.slice.injEq] at he2
        exact ⟨b, he2.1, hcell⟩
      · have hj' : j < (clN L k).length := by omega
        have hmem : (clN L k).getD j 0 < L.length := by
          have := (clN_mem.1 (List.getElem_mem hj')).1
          simpa [hj'] using this
        obtain ⟨qb, qc, hq, _, hreq⟩ := H1.out.req _ hmem
        have c1 := H1.out.c1
        rw [hq] at c1
        exact find1_r _ g qb L.length qc _ s _ _ (cell_of_one (heap_alloc_new w _)) c1 hmem hL hreq.2.1 _ rfl
      · have hj' : j < (clN L k).length := by omega
        have hi' : i < (clN L k).length := by omega
        have := clN_seq H1.out.ok k hij hj'
        simpa [hi', hj'] using this
      · rcases (H1.out.pl k hk4).own.2 with ⟨h1, h2⟩ | ⟨_, cap, _, h1, _, _, hle, _⟩
        · rw [hP, ← placesL_len]; omega
        · rw [he] at h1
          simp only [Value.slice.injEq] at h1
          rw [hP, ← placesL_len, h1.2.2]; exact hle
      · have := placesL_le L k; rw [placesL_len] at this; omega
    have HS := Lib.hid (search_r _ _ s a P cc _ _ HSK.out)
    have HOK : Hid (∀ i f, FoundL s P (fun j => (atL L ((clN L k).getD j 0)).seq) i f → (f = true → i < P) ∧ FindOk L k s (if f = true then (((clN L k).getD i 0 : Nat) : Int) + 1 else 0) f) := by
      intro i f hf
      refine ⟨fun h => (hf.is.1 h).1, ?_⟩
      cases f with
      | true =>
        obtain ⟨h1, h2⟩ := hf.is.1 rfl
        have hi' : i < (clN L k).length := by omega
        have hm := clN_mem.1 (List.getElem_mem hi')
        refine .inl ⟨rfl, (clN L k).getD i 0, if_pos rfl, ?_⟩
        have hg : (clN L k).getD i 0 = (clN L k)[i] := by simp [hi']
        rw [hg] at h2 ⊢
        exact ⟨hm.1, hm.2, h2⟩
      | false =>
        refine .inr ⟨rfl, if_neg (by simp), fun x hx => ?_⟩
        obtain ⟨x1, x2, x3⟩ := hx
        obtain ⟨j, hj, hjx⟩ := List.getElem_of_mem (clN_mem.2 ⟨x1, x2⟩)
        have hg : (clN L k).getD j 0 = x := by simp [hj, hjx]
        have hnot : ¬ (i < P ∧ (atL L ((clN L k).getD i 0)).seq = s) := fun h => by have := hf.is.2 h; cases this
        rcases Nat.lt_trichotomy j i with hji | hji | hji
        · have := hf.lo j hji
          rw [hg] at this
          omega
        · subst hji
          exact hnot ⟨by omega, by rw [hg]; exact x3⟩
        · have hi' : i < (clN L k).length := by omega
          have h1 := hf.hi i (Nat.le_refl _) (by omega)
          have h2 := clN_seq H1.out.ok k hji hj
          rw [hjx, x3] at h2
          simp [hi'] at h1
          omega
    have HROW : Hid (∀ i, i < P → ∃ b, a = some ⟨b, 0, none⟩ ∧ (w.alloc (.cells #[.pointer (some ⟨g, 0, none⟩)] 23)).cell? ⟨b, i, none⟩ = some (.int .i64 ((((clN L k).getD i 0 : Nat) : Int) + 1))) := HSK.out.row
    clear HSK H1 H hc he hP
    go_enter Try.func45, Try.ntmps45
    go_wp2_with fail
    refine HO.out.mono ?_
    rintro e w1 ⟨rfl, rfl⟩
    go_wp2_with fail
    refine HS.out.mono ?_
    rintro e w1 ⟨i, f, rfl, hf, rfl⟩
    have HF := Lib.hid (HOK.out i f hf)
    cases f with
    | false =>
      clear hf
      go_wp2
      go_returns
      exact FindR.of _ _ rfl HF.out.2 (by go_grown)
    | true =>
      have hiP := HF.out.1 rfl
      obtain ⟨b, rfl, c0⟩ := HROW.out i hiP
      have i0 : (0 : Int) ≤ (i : Int) := by omega
      have i1 : (i : Int) < (P : Int) := by omega
      clear hf HROW
      go_wp2
      go_returns
      exact FindR.of _ _ rfl HF.out.2 (by go_grown)
  · have HO : Hid (∀ o, Calls Try.prog 79 #[.pointer (some ⟨g, 0, none⟩), .int .i64 c] (w.alloc o) fun e w' => e = .returned (.slice none 0 0) ∧ w.alloc o = w') := fun _ => lof_out g c (by omega) _
    refine (lfind_none _ c s _ _ w HO).mono fun e w' ⟨he, hb⟩ => FindR.of _ _ he (.inr ⟨rfl, rfl, fun k hk => hc ?_⟩) hb
    obtain ⟨k1, k2, _⟩ := hk
    have hp := (H.ok k k1).1.1
    unfold ReqV.may at hp
    omega
end Go.Proofs.Ytenjjgghoacboaa
