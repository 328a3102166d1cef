/-
  CLOCKS AS PLAIN DATA: which ticks and rounds may be, what they make; the program's calls told so; Fair. No condition but that lists are no longer than lists may be.
-/
import Derived.Test.YtcfcoepifhijcaaClockV
namespace Go.Proofs.Ytcfcoepifhijcaa
open Go.RowKit

/-- What clocks show, and how often each ticked since the last Round. -/
structure CkS where
  f : Nat → Nat
  g : Nat → Nat
def CkS.zero : CkS := ⟨fun _ => 0, fun _ => 0⟩
def canT (n : Nat) (s : CkS) (k : Int) : Bool := decide (0 ≤ k ∧ k < (n : Int) ∧ s.g k.toNat ≤ 1)
def tickS (n : Nat) (s : CkS) (k : Int) : CkS := if canT n s k then ⟨upF s.f k.toNat (s.f k.toNat + 1), upF s.g k.toNat (s.g k.toNat + 1)⟩ else s
def canR (n : Nat) (s : CkS) : Bool := decide (¬ ∃ j, j < n ∧ s.g j = 0)
def roundS (n : Nat) (s : CkS) : CkS := if canR n s then ⟨s.f, fun _ => 0⟩ else s
def stepS (n : Nat) (s : CkS) (k : Int) : Option CkS := if canT n s k then some (tickS n s k) else if canR n s then (if canT n (roundS n s) k then some (tickS n (roundS n s) k) else none) else none
def fairS (n : Nat) : CkS → List Int → Bool
  | _, [] => true
  | s, k :: r => match stepS n s k with
    | none => false
    | some s' => fairS n s' r
/-- May such clocks tick in this order? -/
def fairV (n : Int) (L : List Int) : Bool := if 1 ≤ n ∧ n ≤ 9 then fairS n.toNat .zero L else false
/-- No clock shows more. -/
def CkS.upto (s : CkS) (m : Nat) : Prop := ∀ j, s.f j ≤ m
theorem upto_zero : CkS.zero.upto 0 := fun _ => Nat.le_refl _
theorem CkS.upto.mono {s : CkS} {m m' : Nat} (h : s.upto m) (hm : m ≤ m') : s.upto m' := fun j => Nat.le_trans (h j) hm
theorem CkS.upto.tick {n : Nat} {s : CkS} {m : Nat} (h : s.upto m) (k : Int) : (tickS n s k).upto (m + 1) := by
  intro j
  unfold tickS
  split
  · show upF _ _ _ j ≤ _
    unfold upF
    split
    · have := h k.toNat; omega
    · have := h j; omega
  · have := h j; omega
theorem CkS.upto.round {n : Nat} {s : CkS} {m : Nat} (h : s.upto m) : (roundS n s).upto m := by
  intro j
  unfold roundS
  split
  · exact h j
  · exact h j
theorem CkS.upto.step {n : Nat} {s s' : CkS} {m : Nat} (h : s.upto m) {k : Int} (hs : stepS n s k = some s') : s'.upto (m + 1) := by
  unfold stepS at hs
  split at hs
  · cases hs; exact h.tick k
  · split at hs
    · split at hs
      · cases hs; exact h.round.tick k
      · cases hs
    · cases hs
theorem fairS_step (n : Nat) (s : CkS) (L : List Int) (k : Nat) (hk : k < L.length) : fairS n s (L.drop k) = match stepS n s (L.getD k 0) with | none => false | some s' => fairS n s' (L.drop (k + 1)) := by
  rw [List.drop_eq_getElem_cons hk]
  simp only [fairS, List.getD_eq_getElem?_getD, List.getElem?_eq_getElem hk, Option.getD_some]

/-- Block b is n clocks that show s. -/
abbrev CkA (w : World) (b n : Nat) (s : CkS) : Prop := Ck w b n s.f s.g

section
variable {w : World} {b n : Nat} {s : CkS}
theorem cktick (H : CkA w b n s) (k : Int) {m : Nat} (hm : s.upto m) (hl : m < maxLen) {r : Bool} (hr : canT n s k = r) :
    Calls Try.prog 9 #[.pointer (some ⟨b, 0, none⟩), .int .i64 k] w fun e w' => e = .returned (.bool r) ∧ CkA w' b n (tickS n s k) ∧ Only (· = b) w w' := by
  subst hr
  by_cases h : 0 ≤ k ∧ k < (n : Int)
  · obtain ⟨j, rfl⟩ : ∃ j : Nat, k = j := ⟨k.toNat, by omega⟩
    by_cases hg : s.g j ≤ 1
    · have hc : canT n s j = true := decide_eq_true ⟨h.1, h.2, hg⟩
      unfold tickS
      rw [if_pos hc, hc]
      exact tick_yes H j (by omega) hg (by have := hm j; omega)
    · have hc : canT n s j = false := decide_eq_false fun x => hg x.2.2
      unfold tickS
      rw [hc, if_neg (by decide)]
      exact (tick_full H j (by omega) (by omega)).mono fun e w' ⟨he, hw⟩ => ⟨he, hw ▸ H, hw ▸ .refl _ _⟩
  · have hc : canT n s k = false := decide_eq_false fun x => h ⟨x.1, x.2.1⟩
    unfold tickS
    rw [hc, if_neg (by decide)]
    exact (tick_no H k h).mono fun e w' ⟨he, hw⟩ => ⟨he, hw ▸ H, hw ▸ .refl _ _⟩
theorem ckround (H : CkA w b n s) {r : Bool} (hr : canR n s = r) : Calls Try.prog 11 #[.pointer (some ⟨b, 0, none⟩)] w fun e w' => e = .returned (.bool r) ∧ CkA w' b n (roundS n s) ∧ Only (· = b) w w' := by
  subst hr
  by_cases h : ∃ j, j < n ∧ s.g j = 0
  · have hc : canR n s = false := decide_eq_false fun x => x h
    unfold roundS
    rw [hc, if_neg (by decide)]
    exact round_no H h
  · have hc : canR n s = true := decide_eq_true h
    unfold roundS
    rw [hc, if_pos rfl]
    exact round_yes H h
end

set_option maxRecDepth 100000 in
set_option maxHeartbeats 1000000 in
theorem cktor {w : World} {b n : Nat} {s : CkS} (H : CkA w b n s) (k : Int) {m : Nat} (hm : s.upto m) (hl : m < maxLen) :
    Calls Try.prog 20 #[.pointer (some ⟨b, 0, none⟩), .int .i64 k] w fun e w' => e = .returned (.bool (stepS n s k).isSome) ∧ (∀ s', stepS n s k = some s' → CkA w' b n s') ∧ Only (· = b) w w' := by
  cases h1 : canT n s k with
  | true =>
    have HT := Lib.hid (cktick H k hm hl h1)
    have HS := Lib.hid (show stepS n s k = some (tickS n s k) by unfold stepS; rw [if_pos h1])
    clear h1 hl hm H
    go_enter Try.func20, Try.ntmps20
    go_wp2_with fail
    refine HT.out.mono ?_
    rintro e w1 ⟨rfl, C1, O1⟩
    have HC := Lib.hid C1
    have HO := Lib.hid O1
    clear C1 O1
    go_wp2
    go_returns
    exact ⟨ret_bool (by rw [HS.out]; rfl), fun s' hs' => by rw [HS.out] at hs'; cases hs'; exact HC.out, HO.out⟩
  | false =>
    have h0 : tickS n s k = s := by unfold tickS; rw [h1, if_neg (by decide)]
    have HT := Lib.hid (cktick H k hm hl h1)
    rw [h0] at HT
    cases h2 : canR n s with
    | false =>
      have HR := Lib.hid (fun (u : World) (hu : CkA u b n s) => ckround hu h2)
      have HS := Lib.hid (show stepS n s k = none by unfold stepS; rw [h1, h2]; rfl)
      clear h1 h2 hl hm H h0
      go_enter Try.func20, Try.ntmps20
      go_wp2_with fail
      refine HT.out.mono ?_
      rintro e w1 ⟨rfl, C1, O1⟩
      have HC := Lib.hid C1
      have HO := Lib.hid O1
      clear C1 O1
      go_wp2_with fail
      refine (HR.out _ HC.out).mono ?_
      rintro e w2 ⟨rfl, C2, O2⟩
      have HO2 := Lib.hid (HO.out.trans O2)
      clear C2 O2
      go_wp2
      go_returns
      exact ⟨ret_bool (by rw [HS.out]; rfl), fun s' hs' => (by rw [HS.out] at hs'; cases hs'), HO2.out⟩
    | true =>
      have HR := Lib.hid (fun (u : World) (hu : CkA u b n s) => ckround hu h2)
      obtain ⟨r, h3⟩ : ∃ r, canT n (roundS n s) k = r := ⟨_, rfl⟩
      have HT2 := Lib.hid (fun (u : World) (hu : CkA u b n (roundS n s)) => cktick hu k hm.round hl h3)
      have HS := Lib.hid (show stepS n s k = if r then some (tickS n (roundS n s) k) else none by unfold stepS; rw [h1, h2, h3]; rfl)
      clear h1 h2 h3 hl hm H h0
      go_enter Try.func20, Try.ntmps20
      go_wp2_with fail
      refine HT.out.mono ?_
      rintro e w1 ⟨rfl, C1, O1⟩
      have HC := Lib.hid C1
      have HO := Lib.hid O1
      clear C1 O1
      go_wp2_with fail
      refine (HR.out _ HC.out).mono ?_
      rintro e w2 ⟨rfl, C2, O2⟩
      have HC2 := Lib.hid C2
      have HO2 := Lib.hid (HO.out.trans O2)
      clear C2 O2
      go_wp2_with fail
      refine (HT2.out _ HC2.out).mono ?_
      rintro e w3 ⟨rfl, C3, O3⟩
      have HC3 := Lib.hid C3
      have HO3 := Lib.hid (HO2.out.trans O3)
      clear C3 O3
      go_wp2
      go_returns
      refine ⟨ret_bool (by rw [HS.out]; cases r <;> rfl), fun s' hs' => ?_, HO3.out⟩
      rw [HS.out] at hs'
      cases r with
      | true => cases hs'; exact HC3.out
      | false => cases hs'

set_option maxRecDepth 100000 in
set_option maxHeartbeats 2000000 in
theorem ckfair_some (a : Option Addr) (len c : Nat) (n : Nat) (L : List Int) (w : World) (h1 : 0 < n) (h9 : n ≤ 9) (hI : Ints w w.heap.size (.slice a len c) L) :
    Calls Try.prog 16 #[.slice a len c, .int .i64 n] w fun e w' => e = .returned (.bool (fairS n .zero L)) ∧ Below w.heap.size w w' := by
  have HN := Lib.hid (cknew_yes n w h1 h9)
  have HIa := Lib.hid hI
  obtain ⟨_, _, hv, hcap, hmax, _, hcells⟩ := hI
  cases hv
  obtain ⟨len, hl⟩ : ∃ len, len = L.length := ⟨_, rfl⟩
  obtain ⟨b, hb⟩ : ∃ b, b = w.heap.size := ⟨_, rfl⟩
  rw [← hl] at hcap ⊢
  rw [← hb] at HN hcells ⊢
  have HL := Lib.hid hl
  have HC := Lib.hid hcells
  have HB := Lib.hid hb
  have HM := Lib.hid (show len ≤ maxLen from Nat.le_trans hcap hmax)
  obtain ⟨R, hR⟩ : ∃ R, R = fairS n .zero L := ⟨_, rfl⟩
  rw [← hR]
  have HR := Lib.hid hR
  clear hcells hl hb hR hcap hmax HIa h1 h9
  go_enter Try.func16, Try.ntmps16
  go_wp2_with fail
  refine HN.out.mono ?_
  rintro e w1 ⟨rfl, C1, B1⟩
  have HC1 := Lib.hid C1
  have HB1 := Lib.hid B1
  clear C1 B1 HN
  go_wp2_with fail
  go_loopw [18] (fun s18 wr => ∃ (k : Nat) (s : CkS), s18 = .int .i64 k ∧ k ≤ len ∧ Hid (s.upto k) ∧ Hid (R = fairS n s (L.drop k)) ∧ Hid (CkA wr b n s) ∧ Hid (Below b w wr)) (fun s18 _ => len - (intOf s18).toNat)
  case atStart => exact ⟨0, .zero, rfl, Nat.zero_le _, upto_zero, HR.out, HC1.out, HB1.out⟩
  case round =>
    obtain ⟨k, s, rfl, hk, HU, HF, HS, HW⟩ := hrel
    by_cases hlt : k < len
    · obtain ⟨xb, off, rfl, hxb, hc⟩ := HC.out (List.length_pos_iff.1 (by have := HL.out; omega))
      have q0 := (HW.out.cell (p := ⟨xb, off + k, none⟩) hxb).trans (hc k (by have := HL.out; omega))
      have HE := Lib.hid (fairS_step n s L k (by have := HL.out; omega))
      have k1 : (k : Int) < (len : Int) := by omega
      have k0 : (0 : Int) ≤ (k : Int) := by omega
      have HK1 := Lib.hid (wrap_next hlt HM.out)
      clear hc
      generalize L.getD k 0 = x at q0 HE
      have HT := Lib.hid (cktor HS.out x HU.out (Nat.lt_of_lt_of_le hlt HM.out))
      cases hs : stepS n s x with
      | none =>
        rw [hs] at HT HE
        have HRf : Hid (R = false) := HF.out.trans HE.out
        clear hs
        go_wp2_with fail
        refine HT.out.mono ?_
        rintro e w2 ⟨rfl, _, O2⟩
        have HO2 := Lib.hid (O2.below HW.out (fun x hx => hx ▸ Nat.le_refl _) (Nat.le_of_lt HS.out.lt))
        clear O2
        go_wp2
        go_returns
        exact ⟨ret_bool HRf.out.symm, HO2.out⟩
      | some s' =>
        have HU' := Lib.hid (HU.out.step hs)
        rw [hs] at HT HE
        have HF' : Hid (R = fairS n s' (L.drop (k + 1))) := HF.out.trans HE.out
        clear hs
        go_wp2_with fail
        refine HT.out.mono ?_
        rintro e w2 ⟨rfl, C2, O2⟩
        have HC2 := Lib.hid (C2 s' rfl)
        have HO2 := Lib.hid (O2.below HW.out (fun x hx => hx ▸ Nat.le_refl _) (Nat.le_of_lt HS.out.lt))
        clear O2 C2
        go_wp2
        go_roundw
        case rel => exact ⟨k + 1, s', congrArg (Value.int .i64) HK1.out, by omega, HU'.out, HF'.out, HC2.out, HO2.out⟩
        case measure => rw [HK1.out]; simp [intOf]; omega
    · have k1 : (len : Int) ≤ (k : Int) := by omega
      have HRt : Hid (R = true) := by
        show R = true
        rw [HF.out, List.drop_of_length_le (by have := HL.out; omega)]
        rfl
      go_wp2
      go_returns
      exact ⟨ret_bool HRt.out.symm, HW.out⟩
set_option maxHeartbeats 400000 in
theorem ckfair_none (a : Option Addr) (len c : Nat) (n : Int) (w : World) (hn : ¬ (1 ≤ n ∧ n ≤ 9)) :
    Calls Try.prog 16 #[.slice a len c, .int .i64 n] w fun e w' => e = .returned (.bool false) ∧ w = w' := by
  have HN := Lib.hid (cknew_no n w hn)
  clear hn
  go_enter Try.func16, Try.ntmps16
  go_wp2_with fail
  refine HN.out.mono ?_
  rintro e w1 ⟨rfl, rfl⟩
  go_wp2
  go_returns
  exact ⟨rfl, rfl⟩
theorem ckfair {a : Option Addr} {len c : Nat} {L : List Int} {w : World} {B : Nat} (hI : Ints w B (.slice a len c) L) (hB : B ≤ w.heap.size) (n : Int) {r : Bool} (hr : fairV n L = r) :
    Calls Try.prog 16 #[.slice a len c, .int .i64 n] w fun e w' => e = .returned (.bool r) ∧ Below w.heap.size w w' := by
  subst hr
  unfold fairV
  by_cases h : 1 ≤ n ∧ n ≤ 9
  · rw [if_pos h]
    obtain ⟨j, rfl⟩ : ∃ j : Nat, n = j := ⟨n.toNat, by omega⟩
    exact ckfair_some a len c j L w (by omega) (by omega) (hI.mono hB)
  · rw [if_neg h]
    exact (ckfair_none a len c n w h).mono fun e w' ⟨he, hw⟩ => ⟨he, hw ▸ Below.refl _ _⟩
end Go.Proofs.Ytcfcoepifhijcaa
