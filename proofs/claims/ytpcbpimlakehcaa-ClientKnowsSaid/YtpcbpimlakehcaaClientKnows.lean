/-
  PROVED: casebooklaw21.ClientKnows answers true and leaves its arguments as they were, for any two chains, any bool: the row's own reading and nothing else is assumed.
-/
import Derived.Test.YtpcbpimlakehcaaClT
import Derived.Test.YtpcbpimlakehcaaItemArgs
import Derived.Test.YtpcbpimlakehcaaItemRC
namespace Go.Proofs.Ytpcbpimlakehcaa.ClientKnows
open Go.ChangeShapes Go.WideShapes Go.ChangeAt Go.RowKit

/-- A chain's box at x. -/
def ChAt (u : World) (x : Nat) (ep : Int) (v : Value) : Prop := u.heap[x]? = some (.cells #[.int .i64 ep, v] 24 (0, 0))
section
variable {u u' : World} {x b : Nat} {ep : Int} {v : Value}
theorem ChAt.on (h : ChAt u x ep v) (hb : Below u.heap.size u u') : ChAt u' x ep v := (hb.block x (lt_of_block h)).trans h
theorem ChAt.turn (h : ChAt u x ep v) (ho : Only (· = b) u u') (hx : x ≠ b) : ChAt u' x ep v := (ho.block x (lt_of_block h) hx).trans h
theorem ChAt.cells (h : ChAt u x ep v) : u.cell? ⟨x, 0, none⟩ = some (.int .i64 ep) ∧ u.cell? ⟨x, 1, none⟩ = some v := by
  have h' : u.heap[x]? = _ := h
  exact ⟨by simp [World.cell?, h'], by simp [World.cell?, h']⟩
end
theorem ask_of {ep : Int} {L : List Int} (h : ChainV.may ⟨ep, L⟩) : mayAskV L 5 := by
  obtain ⟨_, _, h1, _, h2⟩ := h
  refine ⟨fun e => ?_, fun x hx => ?_⟩
  · simp only at h1
    rw [e] at h1
    simp at h1
  · have := h2.1 x hx
    omega
/-- The client behind its asking. -/
def k0 : CliV := (newCli 2 5).ask 0 ⟨0, 0, 1, 1, 0, ⟨#[120]⟩⟩
theorem k0_may : (askQ (newCli 2 5) ⟨0, 0, 1, 1, 0, ⟨#[120]⟩⟩).may := by decide
/-- The law's client and its two boxes. -/
structure KW (w : World) (b : Nat) (s : CliV) (ea eb : Int) (va vb : Value) (u : World) : Prop where
  co : CO w.heap.size w b s u
  a : ChAt u w.heap.size ea va
  b2 : ChAt u (w.heap.size + 1) eb vb
  ne : w.heap.size + 1 < b
section
variable {w u u' : World} {b : Nat} {s s' : CliV} {ea eb : Int} {va vb : Value}
theorem KW.on (h : KW w b s ea eb va vb u) (hb : Below u.heap.size u u') : KW w b s ea eb va vb u' := ⟨h.co.on hb, h.a.on hb, h.b2.on hb, h.ne⟩
theorem KW.turn (h : KW w b s ea eb va vb u) (hc : Cli u' b s') (ho : Only (· = b) u u') : KW w b s' ea eb va vb u' := ⟨h.co.turn hc ho, h.a.turn ho (by have := h.ne; omega), h.b2.turn ho (by have := h.ne; omega), h.ne⟩
end

set_option maxRecDepth 100000 in
set_option maxHeartbeats 4000000 in
theorem bad (ea : Int) (va : Value) (la : List Int) (eb : Int) (vb : Value) (lb : List Int) (late : Bool) (w : World) (hA : Ints w w.heap.size va la) (hB : Ints w w.heap.size vb lb)
    (hg : ¬ (la.length ≤ 8 ∧ lb.length ≤ 8 ∧ ChainV.may ⟨ea, la⟩ ∧ ChainV.may ⟨eb, lb⟩)) :
    Calls Try.prog 3 #[.agg #[.int .i64 ea, va], .agg #[.int .i64 eb, vb], .bool late] w fun e w' => e = .returned (.bool true) ∧ Below w.heap.size w w' := by
  have HT := Lib.hid (fun u => told21_any u)
  obtain ⟨aa, ca, rfl, ha1, ha2, _, ha⟩ := id hA
  obtain ⟨ab, cb, rfl, hb1, hb2, _, hb⟩ := id hB
  obtain ⟨na, hna⟩ : ∃ n, n = la.length := ⟨_, rfl⟩
  obtain ⟨nb, hnb⟩ : ∃ n, n = lb.length := ⟨_, rfl⟩
  rw [← hna] at hA ha1 ⊢
  rw [← hnb] at hB hb1 ⊢
  obtain ⟨MA, hMA⟩ : ∃ M, M = decide (ChainV.may ⟨ea, la⟩) := ⟨_, rfl⟩
  obtain ⟨MB, hMB⟩ : ∃ M, M = decide (ChainV.may ⟨eb, lb⟩) := ⟨_, rfl⟩
  have hw2 : Below w.heap.size w ((w.alloc (.cells #[.int .i64 ea, .slice aa na ca] 24)).alloc (.cells #[.int .i64 eb, .slice ab nb cb] 24)) := ((Below.refl _ w).alloc (Nat.le_refl _) _).alloc (by simp) _
  have hxa : ChAt ((w.alloc (.cells #[.int .i64 ea, .slice aa na ca] 24)).alloc (.cells #[.int .i64 eb, .slice ab nb cb] 24)) w.heap.size ea (.slice aa na ca) := ChAt.on (heap_alloc_new w _) ((Below.refl _ _).alloc (Nat.le_refl _) _)
  have hxb : ChAt ((w.alloc (.cells #[.int .i64 ea, .slice aa na ca] 24)).alloc (.cells #[.int .i64 eb, .slice ab nb cb] 24)) (w.heap.size + 1) eb (.slice ab nb cb) := by
    have h := heap_alloc_new (w.alloc (.cells #[.int .i64 ea, .slice aa na ca] 24)) (.cells #[.int .i64 eb, .slice ab nb cb] 24)
    rwa [World.size_alloc] at h
  obtain ⟨W2, hW2⟩ : ∃ W2, W2 = (w.alloc (.cells #[.int .i64 ea, .slice aa na ca] 24)).alloc (.cells #[.int .i64 eb, .slice ab nb cb] 24) := ⟨_, rfl⟩
  rw [← hW2] at hw2 hxa hxb
  have HCA : Hid (∀ u, Below w.heap.size w u → Calls Try.prog 14 #[.agg #[.int .i64 ea, .slice aa na ca]] u fun e w' => e = .returned (.bool MA) ∧ Below u.heap.size u w') := fun u hu => refmaychain_r ea _ la w.heap.size u (hA.keep hu) hu.size MA hMA
  have HCB : Hid (∀ u, Below w.heap.size w u → Calls Try.prog 14 #[.agg #[.int .i64 eb, .slice ab nb cb]] u fun e w' => e = .returned (.bool MB) ∧ Below u.heap.size u w') := fun u hu => refmaychain_r eb _ lb w.heap.size u (hB.keep hu) hu.size MB hMB
  have HW2 := Lib.hid hw2
  have HXA := Lib.hid hxa
  have HXB := Lib.hid hxb
  have HW := Lib.hid hW2
  obtain ⟨ca0, ca1⟩ := hxa.cells
  obtain ⟨cb0, cb1⟩ := hxb.cells
  have h9 : 8 < na ∨ (na ≤ 8 ∧ 8 < nb) ∨ (na ≤ 8 ∧ nb ≤ 8 ∧ MA = false) ∨ (na ≤ 8 ∧ nb ≤ 8 ∧ MA = true ∧ MB = false) := by
    by_cases g1 : na ≤ 8
    · by_cases g2 : nb ≤ 8
      · by_cases g3 : ChainV.may ⟨ea, la⟩
        · exact Or.inr (Or.inr (Or.inr ⟨g1, g2, hMA.trans (decide_eq_true g3), hMB.trans (decide_eq_false fun g4 => hg ⟨by omega, by omega, g3, g4⟩)⟩))
        · exact Or.inr (Or.inr (Or.inl ⟨g1, g2, hMA.trans (decide_eq_false g3)⟩))
      · exact Or.inr (Or.inl ⟨g1, by omega⟩)
    · exact Or.inl (by omega)
  clear hA hB ha hb hg hMA hMB hna hnb hw2 hxa hxb hW2 ha1 hb1 ha2 hb2
  rcases h9 with g1 | ⟨g1, g2⟩ | ⟨g1, g2, g3⟩ | ⟨g1, g2, g3, g4⟩
  · have g1' : (8 : Int) < (na : Int) := by omega
    go_enter Try.func3, Try.ntmps3
    go_wp2_with fail
    rw [← HW.out]
    with_reducible refine (HT.out _).mono ?_
    rintro e w9 ⟨rfl, b9⟩
    have HB9 := Lib.hid (HW2.out.trans (b9.mono HW2.out.size))
    clear b9
    go_wp2
    go_returns
    exact ⟨rfl, HB9.out⟩
  · have g1' : ¬ (8 : Int) < (na : Int) := by omega
    have g2' : (8 : Int) < (nb : Int) := by omega
    go_enter Try.func3, Try.ntmps3
    go_wp2_with fail
    rw [← HW.out]
    with_reducible refine (HT.out _).mono ?_
    rintro e w9 ⟨rfl, b9⟩
    have HB9 := Lib.hid (HW2.out.trans (b9.mono HW2.out.size))
    clear b9
    go_wp2
    go_returns
    exact ⟨rfl, HB9.out⟩
  · have g1' : ¬ (8 : Int) < (na : Int) := by omega
    have g2' : ¬ (8 : Int) < (nb : Int) := by omega
    subst g3
    go_enter Try.func3, Try.ntmps3
    go_wp2_with fail
    rw [← HW.out]
    with_reducible refine (HCA.out _ HW2.out).mono ?_
    rintro e w3 ⟨rfl, b3⟩
    have HB3 := Lib.hid (HW2.out.trans (b3.mono HW2.out.size))
    clear b3 ca0 ca1 cb0 cb1
    go_wp2_with fail
    with_reducible refine (HT.out _).mono ?_
    rintro e w9 ⟨rfl, b9⟩
    have HB9 := Lib.hid (HB3.out.trans (b9.mono HB3.out.size))
    clear b9
    go_wp2
    go_returns
    exact ⟨rfl, HB9.out⟩
  · have g1' : ¬ (8 : Int) < (na : Int) := by omega
    have g2' : ¬ (8 : Int) < (nb : Int) := by omega
    subst g3
    subst g4
    go_enter Try.func3, Try.ntmps3
    go_wp2_with fail
    rw [← HW.out]
    with_reducible refine (HCA.out _ HW2.out).mono ?_
    rintro e w3 ⟨rfl, b3⟩
    have HB3 := Lib.hid (HW2.out.trans (b3.mono HW2.out.size))
    have XB3 := Lib.hid (HXB.out.on b3)
    clear b3 ca0 ca1 cb0 cb1
    obtain ⟨cb0, cb1⟩ := XB3.out.cells
    go_wp2_with fail
    with_reducible refine (HCB.out _ HB3.out).mono ?_
    rintro e w4 ⟨rfl, b4⟩
    have HB4 := Lib.hid (HB3.out.trans (b4.mono HB3.out.size))
    clear b4 cb0 cb1
    go_wp2_with fail
    with_reducible refine (HT.out _).mono ?_
    rintro e w9 ⟨rfl, b9⟩
    have HB9 := Lib.hid (HB4.out.trans (b9.mono HB4.out.size))
    clear b9
    go_wp2
    go_returns
    exact ⟨rfl, HB9.out⟩

set_option maxRecDepth 100000 in
set_option maxHeartbeats 4000000 in
theorem late (ea : Int) (va : Value) (la : List Int) (eb : Int) (vb : Value) (lb : List Int) (w : World) (hA : Ints w w.heap.size va la) (hB : Ints w w.heap.size vb lb)
    (d1 : la.length ≤ 8) (d2 : lb.length ≤ 8) (d3 : ChainV.may ⟨ea, la⟩) (d4 : ChainV.may ⟨eb, lb⟩) :
    Calls Try.prog 3 #[.agg #[.int .i64 ea, va], .agg #[.int .i64 eb, vb], .bool true] w fun e w' => e = .returned (.bool true) ∧ Below w.heap.size w w' := by
  have HT := Lib.hid (fun u => told21_any u)
  obtain ⟨aa, ca, rfl, ha1, ha2, _, ha⟩ := id hA
  obtain ⟨ab, cb, rfl, hb1, hb2, _, hb⟩ := id hB
  obtain ⟨na, hna⟩ : ∃ n, n = la.length := ⟨_, rfl⟩
  obtain ⟨nb, hnb⟩ : ∃ n, n = lb.length := ⟨_, rfl⟩
  rw [← hna] at hA ha1 ⊢
  rw [← hnb] at hB hb1 ⊢
  obtain ⟨MA, hMA⟩ : ∃ M, M = decide (ChainV.may ⟨ea, la⟩) := ⟨_, rfl⟩
  obtain ⟨MB, hMB⟩ : ∃ M, M = decide (ChainV.may ⟨eb, lb⟩) := ⟨_, rfl⟩
  have hw2 : Below w.heap.size w ((w.alloc (.cells #[.int .i64 ea, .slice aa na ca] 24)).alloc (.cells #[.int .i64 eb, .slice ab nb cb] 24)) := ((Below.refl _ w).alloc (Nat.le_refl _) _).alloc (by simp) _
  have hxa : ChAt ((w.alloc (.cells #[.int .i64 ea, .slice aa na ca] 24)).alloc (.cells #[.int .i64 eb, .slice ab nb cb] 24)) w.heap.size ea (.slice aa na ca) := ChAt.on (heap_alloc_new w _) ((Below.refl _ _).alloc (Nat.le_refl _) _)
  have hxb : ChAt ((w.alloc (.cells #[.int .i64 ea, .slice aa na ca] 24)).alloc (.cells #[.int .i64 eb, .slice ab nb cb] 24)) (w.heap.size + 1) eb (.slice ab nb cb) := by
    have h := heap_alloc_new (w.alloc (.cells #[.int .i64 ea, .slice aa na ca] 24)) (.cells #[.int .i64 eb, .slice ab nb cb] 24)
    rwa [World.size_alloc] at h
  obtain ⟨W2, hW2⟩ : ∃ W2, W2 = (w.alloc (.cells #[.int .i64 ea, .slice aa na ca] 24)).alloc (.cells #[.int .i64 eb, .slice ab nb cb] 24) := ⟨_, rfl⟩
  rw [← hW2] at hw2 hxa hxb
  have HCA : Hid (∀ u, Below w.heap.size w u → Calls Try.prog 14 #[.agg #[.int .i64 ea, .slice aa na ca]] u fun e w' => e = .returned (.bool MA) ∧ Below u.heap.size u w') := fun u hu => refmaychain_r ea _ la w.heap.size u (hA.keep hu) hu.size MA hMA
  have HCB : Hid (∀ u, Below w.heap.size w u → Calls Try.prog 14 #[.agg #[.int .i64 eb, .slice ab nb cb]] u fun e w' => e = .returned (.bool MB) ∧ Below u.heap.size u w') := fun u hu => refmaychain_r eb _ lb w.heap.size u (hB.keep hu) hu.size MB hMB
  have HW2 := Lib.hid hw2
  have HXA := Lib.hid hxa
  have HXB := Lib.hid hxb
  have HW := Lib.hid hW2
  obtain ⟨ca0, ca1⟩ := hxa.cells
  obtain ⟨cb0, cb1⟩ := hxb.cells
  obtain rfl : MA = true := hMA.trans (decide_eq_true d3)
  obtain rfl : MB = true := hMB.trans (decide_eq_true d4)
  have g1' : ¬ (8 : Int) < (na : Int) := by omega
  have g2' : ¬ (8 : Int) < (nb : Int) := by omega
  have HNew : Hid (∀ u, Below w.heap.size w u → ChAt u w.heap.size ea (.slice aa na ca) → ChAt u (w.heap.size + 1) eb (.slice ab nb cb) → Calls Try.prog 16 #[.int .i64 2, .int .i64 5] u fun e w' => e = .returned (.tuple #[.pointer (some ⟨u.heap.size, 0, none⟩), .int .i64 0]) ∧ KW w u.heap.size (newCli 2 5) ea eb (.slice aa na ca) (.slice ab nb cb) w') := fun u hu xa xb =>
    (clnew_yes 2 5 u (by decide) (by decide) (by decide)).mono fun _ _ ⟨he, hc, hb⟩ => ⟨he, ⟨hc, hu.trans (hb.mono hu.size), hu.size, Nat.le_refl _⟩, xa.on hb, xb.on hb, lt_of_block xb⟩
  have HAsk : Hid (∀ u b, KW w b (newCli 2 5) ea eb (.slice aa na ca) (.slice ab nb cb) u → Calls Try.prog 17 #[.pointer (some ⟨b, 0, none⟩), .int .i64 0, .agg #[.int .i64 0, .int .i64 0, .int .i64 1, .int .i64 1, .int .i64 0, .string ⟨#[120]⟩]] u fun e w' => e = .returned (.tuple #[.int .i64 (targV (newCli 2 5).L (newCli 2 5).n 1 (wrQ ⟨0, 0, 1, 1, 0, ⟨#[120]⟩⟩)), .int .i64 0]) ∧ KW w b k0 ea eb (.slice aa na ca) (.slice ab nb cb) w') := fun u b hu =>
    (clask_ok hu.co.c 0 ⟨0, 0, 1, 1, 0, ⟨#[120]⟩⟩ (by decide) (by decide) (by decide) k0_may (by decide)).mono fun _ _ ⟨he, hc, ho⟩ => ⟨he, hu.turn hc ho⟩
  generalize targV (newCli 2 5).L (newCli 2 5).n 1 (wrQ ⟨0, 0, 1, 1, 0, ⟨#[120]⟩⟩) = A0 at HAsk
  have HTa : Hid (∀ u b, KW w b k0 ea eb (.slice aa na ca) (.slice ab nb cb) u → Calls Try.prog 18 #[.pointer (some ⟨b, 0, none⟩), .int .i64 1, .agg #[.int .i64 ea, .slice aa na ca]] u fun e w' => e = .returned (.tuple #[]) ∧ KW w b (k0.tell ea la) ea eb (.slice aa na ca) (.slice ab nb cb) w') := fun u b hu =>
    (cltold_yes hu.co.c 1 ea _ la ((hA.keep hu.co.bel).mono hu.co.bel.size) ⟨⟨Nat.zero_lt_one, rfl⟩, d3, d3.1⟩).mono fun _ _ ⟨he, hc, ho⟩ => ⟨he, hu.turn hc ho⟩
  have HTb : Hid (∀ u b, KW w b (k0.tell ea la) ea eb (.slice aa na ca) (.slice ab nb cb) u → Calls Try.prog 18 #[.pointer (some ⟨b, 0, none⟩), .int .i64 2, .agg #[.int .i64 eb, .slice ab nb cb]] u fun e w' => e = .returned (.tuple #[]) ∧ KW w b (k0.tell ea la) ea eb (.slice aa na ca) (.slice ab nb cb) w') := fun u b hu =>
    (cltold_no hu.co.c 2 eb _ lb ((hB.keep hu.co.bel).mono hu.co.bel.size) (fun h => absurd (show (1 : Int) = 2 from h.1.2) (by decide))).mono fun _ _ ⟨he, hb⟩ => ⟨he, hu.on hb⟩
  have htg : targV (k0.tell ea la).L (k0.tell ea la).n ((k0.tell ea la).tries + 1) (wrQ (k0.tell ea la).q) = la.getD 0 0 := by
    show targV la 5 2 true = _
    unfold targV
    rw [if_pos ⟨by omega, ask_of d3⟩, if_pos rfl]
  have HTk : Hid (∀ u b, KW w b (k0.tell ea la) ea eb (.slice aa na ca) (.slice ab nb cb) u → Calls Try.prog 19 #[.pointer (some ⟨b, 0, none⟩), .int .i64 8] u fun e w' => e = .returned (.tuple #[.int .i64 (la.getD 0 0), .bool true]) ∧ KW w b ((k0.tell ea la).tryAt 8) ea eb (.slice aa na ca) (.slice ab nb cb) w' ∧ Only (· = b) u w') := fun u b hu =>
    (cltick_yes hu.co.c 8 (by decide) ⟨Nat.zero_lt_one, by show (0 : Int) ≤ 8; decide, by show waitV 1 ≤ 8 - 0; decide⟩ (by show 1 ≤ 99999; omega)).mono fun _ _ ⟨he, hc, ho⟩ => ⟨he.trans (congrArg (fun z => Ending.returned (.tuple #[.int .i64 z, .bool true])) htg), hu.turn hc ho, ho⟩
  have HTr : Hid (∀ u b, KW w b ((k0.tell ea la).tryAt 8) ea eb (.slice aa na ca) (.slice ab nb cb) u → Calls Try.prog 20 #[.pointer (some ⟨b, 0, none⟩)] u fun e w' => e = .returned (.int .i64 2) ∧ u = w') := fun u b hu => cltries_r hu.co.c
  obtain ⟨rb, off, rfl, hrb, hrc⟩ := ha (by intro e; have h1 := d3.2.2.1; simp only at h1; rw [e] at h1; simp at h1)
  have hn0 : 0 < na := by have h1 := d3.2.2.1; simp only at h1; omega
  have hn1 : (0 : Int) < (na : Int) := by omega
  have HR : Hid (∀ u, Below w.heap.size w u → u.cell? ⟨rb, off, none⟩ = some (.int .i64 (la.getD 0 0))) := fun u hu => (hu.cell (p := ⟨rb, off, none⟩) hrb).trans (hrc 0 (by omega))
  generalize la.getD 0 0 = z0 at HTk HR
  clear htg hA hB hrc hrb hMA hMB hna hnb hw2 hxa hxb hW2 ha1 hb1 ha2 hb2 d1 d2 d3 d4 hb
  go_enter Try.func3, Try.ntmps3
  go_wp2_with fail
  rw [← HW.out]
  with_reducible refine (HCA.out _ HW2.out).mono ?_
  rintro e w3 ⟨rfl, b3⟩
  have HB3 := Lib.hid (HW2.out.trans (b3.mono HW2.out.size))
  have XA3 := Lib.hid (HXA.out.on b3)
  have XB3 := Lib.hid (HXB.out.on b3)
  clear b3 ca0 ca1 cb0 cb1 HXA HXB HW2 HW HCA
  obtain ⟨cb0, cb1⟩ := XB3.out.cells
  go_wp2_with fail
  with_reducible refine (HCB.out _ HB3.out).mono ?_
  rintro e w4 ⟨rfl, b4⟩
  have HB4 := Lib.hid (HB3.out.trans (b4.mono HB3.out.size))
  have XA4 := Lib.hid (XA3.out.on b4)
  have XB4 := Lib.hid (XB3.out.on b4)
  clear b4 cb0 cb1 XA3 XB3 HB3 HCB
  go_wp2_with fail
  with_reducible refine (HNew.out _ HB4.out XA4.out XB4.out).mono ?_
  rintro e w5 ⟨rfl, k5⟩
  have K5 := Lib.hid k5
  clear k5 XA4 XB4 HNew
  generalize w4.heap.size = b at K5 ⊢
  clear HB4
  go_wp2_with fail
  with_reducible refine (HAsk.out _ _ K5.out).mono ?_
  rintro e w6 ⟨rfl, k6⟩
  have K6 := Lib.hid k6
  clear k6 K5 HAsk
  obtain ⟨ca0, ca1⟩ := K6.out.a.cells
  go_wp2_with fail
  with_reducible refine (HTa.out _ _ K6.out).mono ?_
  rintro e w7 ⟨rfl, k7⟩
  have K7 := Lib.hid k7
  clear k7 K6 HTa ca0 ca1
  obtain ⟨cb0, cb1⟩ := K7.out.b2.cells
  go_wp2_with fail
  with_reducible refine (HTb.out _ _ K7.out).mono ?_
  rintro e w8 ⟨rfl, k8⟩
  have K8 := Lib.hid k8
  clear k8 K7 HTb cb0 cb1
  obtain ⟨ca0, ca1⟩ := K8.out.a.cells
  obtain ⟨cb0, cb1⟩ := K8.out.b2.cells
  have k9 : KW w b (k0.tell ea la) ea eb (.slice (some ⟨rb, off, none⟩) na ca) (.slice ab nb cb) (w8.alloc (.cells #[.int .i64 ea, .slice (some ⟨rb, off, none⟩) na ca] 24)) := K8.out.on ((Below.refl _ _).alloc (Nat.le_refl _) _)
  have x9 : ChAt (w8.alloc (.cells #[.int .i64 ea, .slice (some ⟨rb, off, none⟩) na ca] 24)) w8.heap.size ea (.slice (some ⟨rb, off, none⟩) na ca) := heap_alloc_new w8 _
  have hne : w8.heap.size ≠ b := by have := K8.out.co.c.lt; omega
  have K9 := Lib.hid k9
  have X9 := Lib.hid x9
  have HNE := Lib.hid hne
  have l1 : w.heap.size + 1 < w8.heap.size := lt_of_block K8.out.b2
  have l0 : w.heap.size < w8.heap.size := by omega
  clear k9 x9 hne K8
  go_wp2_with fail
  with_reducible refine (HTk.out _ _ K9.out).mono ?_
  rintro e w10 ⟨rfl, k10, o10⟩
  have K10 := Lib.hid k10
  have X10 := Lib.hid (X9.out.turn o10 HNE.out)
  clear k10 o10 K9 X9 HTk ca0 ca1 cb0 cb1 l0 l1
  go_wp2_with fail
  with_reducible refine (HT.out _).mono ?_
  rintro e w11 ⟨rfl, b11⟩
  have K11 := Lib.hid (K10.out.on b11)
  have X11 := Lib.hid (X10.out.on b11)
  clear b11 K10 X10
  obtain ⟨y0, y1⟩ := X11.out.cells
  have z1 := HR.out _ K11.out.co.bel
  go_wp2_with fail
  with_reducible refine (HTr.out _ _ K11.out).mono ?_
  rintro e w12 ⟨rfl, rfl⟩
  have HBE := Lib.hid K11.out.co.bel
  clear K11 X11 HTr
  go_wp2
  go_returns
  exact ⟨by first | rfl | (simp; done), HBE.out⟩

set_option maxRecDepth 100000 in
set_option maxHeartbeats 4000000 in
theorem newer (ea : Int) (va : Value) (la : List Int) (eb : Int) (vb : Value) (lb : List Int) (w : World) (hA : Ints w w.heap.size va la) (hB : Ints w w.heap.size vb lb)
    (d1 : la.length ≤ 8) (d2 : lb.length ≤ 8) (d3 : ChainV.may ⟨ea, la⟩) (d4 : ChainV.may ⟨eb, lb⟩) (d5 : ea ≤ eb) :
    Calls Try.prog 3 #[.agg #[.int .i64 ea, va], .agg #[.int .i64 eb, vb], .bool false] w fun e w' => e = .returned (.bool true) ∧ Below w.heap.size w w' := by
  have HT := Lib.hid (fun u => told21_any u)
  obtain ⟨aa, ca, rfl, ha1, ha2, _, ha⟩ := id hA
  obtain ⟨ab, cb, rfl, hb1, hb2, _, hb⟩ := id hB
  obtain ⟨na, hna⟩ : ∃ n, n = la.length := ⟨_, rfl⟩
  obtain ⟨nb, hnb⟩ : ∃ n, n = lb.length := ⟨_, rfl⟩
  rw [← hna] at hA ha1 ⊢
  rw [← hnb] at hB hb1 ⊢
  obtain ⟨MA, hMA⟩ : ∃ M, M = decide (ChainV.may ⟨ea, la⟩) := ⟨_, rfl⟩
  obtain ⟨MB, hMB⟩ : ∃ M, M = decide (ChainV.may ⟨eb, lb⟩) := ⟨_, rfl⟩
  have hw2 : Below w.heap.size w ((w.alloc (.cells #[.int .i64 ea, .slice aa na ca] 24)).alloc (.cells #[.int .i64 eb, .slice ab nb cb] 24)) := ((Below.refl _ w).alloc (Nat.le_refl _) _).alloc (by simp) _
  have hxa : ChAt ((w.alloc (.cells #[.int .i64 ea, .slice aa na ca] 24)).alloc (.cells #[.int .i64 eb, .slice ab nb cb] 24)) w.heap.size ea (.slice aa na ca) := ChAt.on (heap_alloc_new w _) ((Below.refl _ _).alloc (Nat.le_refl _) _)
  have hxb : ChAt ((w.alloc (.cells #[.int .i64 ea, .slice aa na ca] 24)).alloc (.cells #[.int .i64 eb, .slice ab nb cb] 24)) (w.heap.size + 1) eb (.slice ab nb cb) := by
    have h := heap_alloc_new (w.alloc (.cells #[.int .i64 ea, .slice aa na ca] 24)) (.cells #[.int .i64 eb, .slice ab nb cb] 24)
    rwa [World.size_alloc] at h
  obtain ⟨W2, hW2⟩ : ∃ W2, W2 = (w.alloc (.cells #[.int .i64 ea, .slice aa na ca] 24)).alloc (.cells #[.int .i64 eb, .slice ab nb cb] 24) := ⟨_, rfl⟩
  rw [← hW2] at hw2 hxa hxb
  have HCA : Hid (∀ u, Below w.heap.size w u → Calls Try.prog 14 #[.agg #[.int .i64 ea, .slice aa na ca]] u fun e w' => e = .returned (.bool MA) ∧ Below u.heap.size u w') := fun u hu => refmaychain_r ea _ la w.heap.size u (hA.keep hu) hu.size MA hMA
  have HCB : Hid (∀ u, Below w.heap.size w u → Calls Try.prog 14 #[.agg #[.int .i64 eb, .slice ab nb cb]] u fun e w' => e = .returned (.bool MB) ∧ Below u.heap.size u w') := fun u hu => refmaychain_r eb _ lb w.heap.size u (hB.keep hu) hu.size MB hMB
  have HW2 := Lib.hid hw2
  have HXA := Lib.hid hxa
  have HXB := Lib.hid hxb
  have HW := Lib.hid hW2
  obtain ⟨ca0, ca1⟩ := hxa.cells
  obtain ⟨cb0, cb1⟩ := hxb.cells
  obtain rfl : MA = true := hMA.trans (decide_eq_true d3)
  obtain rfl : MB = true := hMB.trans (decide_eq_true d4)
  have g1' : ¬ (8 : Int) < (na : Int) := by omega
  have g2' : ¬ (8 : Int) < (nb : Int) := by omega
  have HNew : Hid (∀ u, Below w.heap.size w u → ChAt u w.heap.size ea (.slice aa na ca) → ChAt u (w.heap.size + 1) eb (.slice ab nb cb) → Calls Try.prog 16 #[.int .i64 2, .int .i64 5] u fun e w' => e = .returned (.tuple #[.pointer (some ⟨u.heap.size, 0, none⟩), .int .i64 0]) ∧ KW w u.heap.size (newCli 2 5) ea eb (.slice aa na ca) (.slice ab nb cb) w') := fun u hu xa xb =>
    (clnew_yes 2 5 u (by decide) (by decide) (by decide)).mono fun _ _ ⟨he, hc, hb⟩ => ⟨he, ⟨hc, hu.trans (hb.mono hu.size), hu.size, Nat.le_refl _⟩, xa.on hb, xb.on hb, lt_of_block xb⟩
  have HAsk : Hid (∀ u b, KW w b (newCli 2 5) ea eb (.slice aa na ca) (.slice ab nb cb) u → Calls Try.prog 17 #[.pointer (some ⟨b, 0, none⟩), .int .i64 0, .agg #[.int .i64 0, .int .i64 0, .int .i64 1, .int .i64 1, .int .i64 0, .string ⟨#[120]⟩]] u fun e w' => e = .returned (.tuple #[.int .i64 (targV (newCli 2 5).L (newCli 2 5).n 1 (wrQ ⟨0, 0, 1, 1, 0, ⟨#[120]⟩⟩)), .int .i64 0]) ∧ KW w b k0 ea eb (.slice aa na ca) (.slice ab nb cb) w') := fun u b hu =>
    (clask_ok hu.co.c 0 ⟨0, 0, 1, 1, 0, ⟨#[120]⟩⟩ (by decide) (by decide) (by decide) k0_may (by decide)).mono fun _ _ ⟨he, hc, ho⟩ => ⟨he, hu.turn hc ho⟩
  generalize targV (newCli 2 5).L (newCli 2 5).n 1 (wrQ ⟨0, 0, 1, 1, 0, ⟨#[120]⟩⟩) = A0 at HAsk
  have HTa : Hid (∀ u b, KW w b k0 ea eb (.slice aa na ca) (.slice ab nb cb) u → Calls Try.prog 18 #[.pointer (some ⟨b, 0, none⟩), .int .i64 1, .agg #[.int .i64 ea, .slice aa na ca]] u fun e w' => e = .returned (.tuple #[]) ∧ KW w b (k0.tell ea la) ea eb (.slice aa na ca) (.slice ab nb cb) w') := fun u b hu =>
    (cltold_yes hu.co.c 1 ea _ la ((hA.keep hu.co.bel).mono hu.co.bel.size) ⟨⟨Nat.zero_lt_one, rfl⟩, d3, d3.1⟩).mono fun _ _ ⟨he, hc, ho⟩ => ⟨he, hu.turn hc ho⟩
  have HTb : Hid (∀ u b, KW w b (k0.tell ea la) ea eb (.slice aa na ca) (.slice ab nb cb) u → Calls Try.prog 18 #[.pointer (some ⟨b, 0, none⟩), .int .i64 1, .agg #[.int .i64 eb, .slice ab nb cb]] u fun e w' => e = .returned (.tuple #[]) ∧ KW w b ((k0.tell ea la).tell eb lb) ea eb (.slice aa na ca) (.slice ab nb cb) w') := fun u b hu =>
    (cltold_yes hu.co.c 1 eb _ lb ((hB.keep hu.co.bel).mono hu.co.bel.size) ⟨⟨Nat.zero_lt_one, rfl⟩, d4, by show ea ≤ eb; omega⟩).mono fun _ _ ⟨he, hc, ho⟩ => ⟨he, hu.turn hc ho⟩
  have htg : targV ((k0.tell ea la).tell eb lb).L ((k0.tell ea la).tell eb lb).n (((k0.tell ea la).tell eb lb).tries + 1) (wrQ ((k0.tell ea la).tell eb lb).q) = lb.getD 0 0 := by
    show targV lb 5 2 true = _
    unfold targV
    rw [if_pos ⟨by omega, ask_of d4⟩, if_pos rfl]
  have HTk : Hid (∀ u b, KW w b ((k0.tell ea la).tell eb lb) ea eb (.slice aa na ca) (.slice ab nb cb) u → Calls Try.prog 19 #[.pointer (some ⟨b, 0, none⟩), .int .i64 8] u fun e w' => e = .returned (.tuple #[.int .i64 (lb.getD 0 0), .bool true]) ∧ KW w b (((k0.tell ea la).tell eb lb).tryAt 8) ea eb (.slice aa na ca) (.slice ab nb cb) w' ∧ Only (· = b) u w') := fun u b hu =>
    (cltick_yes hu.co.c 8 (by decide) ⟨Nat.zero_lt_one, by show (0 : Int) ≤ 8; decide, by show waitV 1 ≤ 8 - 0; decide⟩ (by show 1 ≤ 99999; omega)).mono fun _ _ ⟨he, hc, ho⟩ => ⟨he.trans (congrArg (fun z => Ending.returned (.tuple #[.int .i64 z, .bool true])) htg), hu.turn hc ho, ho⟩
  have HTr : Hid (∀ u b, KW w b (((k0.tell ea la).tell eb lb).tryAt 8) ea eb (.slice aa na ca) (.slice ab nb cb) u → Calls Try.prog 20 #[.pointer (some ⟨b, 0, none⟩)] u fun e w' => e = .returned (.int .i64 2) ∧ u = w') := fun u b hu => cltries_r hu.co.c
  obtain ⟨rb, off, rfl, hrb, hrc⟩ := hb (by intro e; have h1 := d4.2.2.1; simp only at h1; rw [e] at h1; simp at h1)
  have hn0 : 0 < nb := by have h1 := d4.2.2.1; simp only at h1; omega
  have hn1 : (0 : Int) < (nb : Int) := by omega
  have HR : Hid (∀ u, Below w.heap.size w u → u.cell? ⟨rb, off, none⟩ = some (.int .i64 (lb.getD 0 0))) := fun u hu => (hu.cell (p := ⟨rb, off, none⟩) hrb).trans (hrc 0 (by omega))
  generalize lb.getD 0 0 = z0 at HTk HR
  clear htg hA hB hrc hrb hMA hMB hna hnb hw2 hxa hxb hW2 ha1 hb1 ha2 hb2 d1 d2 d3 d4 ha
  go_enter Try.func3, Try.ntmps3
  go_wp2_with fail
  rw [← HW.out]
  with_reducible refine (HCA.out _ HW2.out).mono ?_
  rintro e w3 ⟨rfl, b3⟩
  have HB3 := Lib.hid (HW2.out.trans (b3.mono HW2.out.size))
  have XA3 := Lib.hid (HXA.out.on b3)
  have XB3 := Lib.hid (HXB.out.on b3)
  clear b3 ca0 ca1 cb0 cb1 HXA HXB HW2 HW HCA
  obtain ⟨cb0, cb1⟩ := XB3.out.cells
  go_wp2_with fail
  with_reducible refine (HCB.out _ HB3.out).mono ?_
  rintro e w4 ⟨rfl, b4⟩
  have HB4 := Lib.hid (HB3.out.trans (b4.mono HB3.out.size))
  have XA4 := Lib.hid (XA3.out.on b4)
  have XB4 := Lib.hid (XB3.out.on b4)
  clear b4 cb0 cb1 XA3 XB3 HB3 HCB
  go_wp2_with fail
  with_reducible refine (HNew.out _ HB4.out XA4.out XB4.out).mono ?_
  rintro e w5 ⟨rfl, k5⟩
  have K5 := Lib.hid k5
  clear k5 XA4 XB4 HNew
  generalize w4.heap.size = b at K5 ⊢
  clear HB4
  go_wp2_with fail
  with_reducible refine (HAsk.out _ _ K5.out).mono ?_
  rintro e w6 ⟨rfl, k6⟩
  have K6 := Lib.hid k6
  clear k6 K5 HAsk
  obtain ⟨ca0, ca1⟩ := K6.out.a.cells
  go_wp2_with fail
  with_reducible refine (HTa.out _ _ K6.out).mono ?_
  rintro e w7 ⟨rfl, k7⟩
  have K7 := Lib.hid k7
  clear k7 K6 HTa ca0 ca1
  obtain ⟨cb0, cb1⟩ := K7.out.b2.cells
  go_wp2_with fail
  with_reducible refine (HTb.out _ _ K7.out).mono ?_
  rintro e w8 ⟨rfl, k8⟩
  have K8 := Lib.hid k8
  clear k8 K7 HTb cb0 cb1
  obtain ⟨ca0, ca1⟩ := K8.out.a.cells
  obtain ⟨cb0, cb1⟩ := K8.out.b2.cells
  have k9 : KW w b ((k0.tell ea la).tell eb lb) ea eb (.slice aa na ca) (.slice (some ⟨rb, off, none⟩) nb cb) (w8.alloc (.cells #[.int .i64 eb, .slice (some ⟨rb, off, none⟩) nb cb] 24)) := K8.out.on ((Below.refl _ _).alloc (Nat.le_refl _) _)
  have x9 : ChAt (w8.alloc (.cells #[.int .i64 eb, .slice (some ⟨rb, off, none⟩) nb cb] 24)) w8.heap.size eb (.slice (some ⟨rb, off, none⟩) nb cb) := heap_alloc_new w8 _
  have hne : w8.heap.size ≠ b := by have := K8.out.co.c.lt; omega
  have K9 := Lib.hid k9
  have X9 := Lib.hid x9
  have HNE := Lib.hid hne
  have l1 : w.heap.size + 1 < w8.heap.size := lt_of_block K8.out.b2
  have l0 : w.heap.size < w8.heap.size := by omega
  clear k9 x9 hne K8
  go_wp2_with fail
  with_reducible refine (HTk.out _ _ K9.out).mono ?_
  rintro e w10 ⟨rfl, k10, o10⟩
  have K10 := Lib.hid k10
  have X10 := Lib.hid (X9.out.turn o10 HNE.out)
  clear k10 o10 K9 X9 HTk ca0 ca1 cb0 cb1 l0 l1
  go_wp2_with fail
  with_reducible refine (HT.out _).mono ?_
  rintro e w11 ⟨rfl, b11⟩
  have K11 := Lib.hid (K10.out.on b11)
  have X11 := Lib.hid (X10.out.on b11)
  clear b11 K10 X10
  obtain ⟨y0, y1⟩ := X11.out.cells
  have z1 := HR.out _ K11.out.co.bel
  go_wp2_with fail
  with_reducible refine (HTr.out _ _ K11.out).mono ?_
  rintro e w12 ⟨rfl, rfl⟩
  have HBE := Lib.hid K11.out.co.bel
  clear K11 X11 HTr
  go_wp2
  go_returns
  exact ⟨by first | rfl | (simp; done), HBE.out⟩

set_option maxRecDepth 100000 in
set_option maxHeartbeats 4000000 in
theorem elder (ea : Int) (va : Value) (la : List Int) (eb : Int) (vb : Value) (lb : List Int) (w : World) (hA : Ints w w.heap.size va la) (hB : Ints w w.heap.size vb lb)
    (d1 : la.length ≤ 8) (d2 : lb.length ≤ 8) (d3 : ChainV.may ⟨ea, la⟩) (d4 : ChainV.may ⟨eb, lb⟩) (d5 : eb < ea) :
    Calls Try.prog 3 #[.agg #[.int .i64 ea, va], .agg #[.int .i64 eb, vb], .bool false] w fun e w' => e = .returned (.bool true) ∧ Below w.heap.size w w' := by
  have HT := Lib.hid (fun u => told21_any u)
  obtain ⟨aa, ca, rfl, ha1, ha2, _, ha⟩ := id hA
  obtain ⟨ab, cb, rfl, hb1, hb2, _, hb⟩ := id hB
  obtain ⟨na, hna⟩ : ∃ n, n = la.length := ⟨_, rfl⟩
  obtain ⟨nb, hnb⟩ : ∃ n, n = lb.length := ⟨_, rfl⟩
  rw [← hna] at hA ha1 ⊢
  rw [← hnb] at hB hb1 ⊢
  obtain ⟨MA, hMA⟩ : ∃ M, M = decide (ChainV.may ⟨ea, la⟩) := ⟨_, rfl⟩
  obtain ⟨MB, hMB⟩ : ∃ M, M = decide (ChainV.may ⟨eb, lb⟩) := ⟨_, rfl⟩
  have hw2 : Below w.heap.size w ((w.alloc (.cells #[.int .i64 ea, .slice aa na ca] 24)).alloc (.cells #[.int .i64 eb, .slice ab nb cb] 24)) := ((Below.refl _ w).alloc (Nat.le_refl _) _).alloc (by simp) _
  have hxa : ChAt ((w.alloc (.cells #[.int .i64 ea, .slice aa na ca] 24)).alloc (.cells #[.int .i64 eb, .slice ab nb cb] 24)) w.heap.size ea (.slice aa na ca) := ChAt.on (heap_alloc_new w _) ((Below.refl _ _).alloc (Nat.le_refl _) _)
  have hxb : ChAt ((w.alloc (.cells #[.int .i64 ea, .slice aa na ca] 24)).alloc (.cells #[.int .i64 eb, .slice ab nb cb] 24)) (w.heap.size + 1) eb (.slice ab nb cb) := by
    have h := heap_alloc_new (w.alloc (.cells #[.int .i64 ea, .slice aa na ca] 24)) (.cells #[.int .i64 eb, .slice ab nb cb] 24)
    rwa [World.size_alloc] at h
  obtain ⟨W2, hW2⟩ : ∃ W2, W2 = (w.alloc (.cells #[.int .i64 ea, .slice aa na ca] 24)).alloc (.cells #[.int .i64 eb, .slice ab nb cb] 24) := ⟨_, rfl⟩
  rw [← hW2] at hw2 hxa hxb
  have HCA : Hid (∀ u, Below w.heap.size w u → Calls Try.prog 14 #[.agg #[.int .i64 ea, .slice aa na ca]] u fun e w' => e = .returned (.bool MA) ∧ Below u.heap.size u w') := fun u hu => refmaychain_r ea _ la w.heap.size u (hA.keep hu) hu.size MA hMA
  have HCB : Hid (∀ u, Below w.heap.size w u → Calls Try.prog 14 #[.agg #[.int .i64 eb, .slice ab nb cb]] u fun e w' => e = .returned (.bool MB) ∧ Below u.heap.size u w') := fun u hu => refmaychain_r eb _ lb w.heap.size u (hB.keep hu) hu.size MB hMB
  have HW2 := Lib.hid hw2
  have HXA := Lib.hid hxa
  have HXB := Lib.hid hxb
  have HW := Lib.hid hW2
  obtain ⟨ca0, ca1⟩ := hxa.cells
  obtain ⟨cb0, cb1⟩ := hxb.cells
  obtain rfl : MA = true := hMA.trans (decide_eq_true d3)
  obtain rfl : MB = true := hMB.trans (decide_eq_true d4)
  have g1' : ¬ (8 : Int) < (na : Int) := by omega
  have g2' : ¬ (8 : Int) < (nb : Int) := by omega
  have HNew : Hid (∀ u, Below w.heap.size w u → ChAt u w.heap.size ea (.slice aa na ca) → ChAt u (w.heap.size + 1) eb (.slice ab nb cb) → Calls Try.prog 16 #[.int .i64 2, .int .i64 5] u fun e w' => e = .returned (.tuple #[.pointer (some ⟨u.heap.size, 0, none⟩), .int .i64 0]) ∧ KW w u.heap.size (newCli 2 5) ea eb (.slice aa na ca) (.slice ab nb cb) w') := fun u hu xa xb =>
    (clnew_yes 2 5 u (by decide) (by decide) (by decide)).mono fun _ _ ⟨he, hc, hb⟩ => ⟨he, ⟨hc, hu.trans (hb.mono hu.size), hu.size, Nat.le_refl _⟩, xa.on hb, xb.on hb, lt_of_block xb⟩
  have HAsk : Hid (∀ u b, KW w b (newCli 2 5) ea eb (.slice aa na ca) (.slice ab nb cb) u → Calls Try.prog 17 #[.pointer (some ⟨b, 0, none⟩), .int .i64 0, .agg #[.int .i64 0, .int .i64 0, .int .i64 1, .int .i64 1, .int .i64 0, .string ⟨#[120]⟩]] u fun e w' => e = .returned (.tuple #[.int .i64 (targV (newCli 2 5).L (newCli 2 5).n 1 (wrQ ⟨0, 0, 1, 1, 0, ⟨#[120]⟩⟩)), .int .i64 0]) ∧ KW w b k0 ea eb (.slice aa na ca) (.slice ab nb cb) w') := fun u b hu =>
    (clask_ok hu.co.c 0 ⟨0, 0, 1, 1, 0, ⟨#[120]⟩⟩ (by decide) (by decide) (by decide) k0_may (by decide)).mono fun _ _ ⟨he, hc, ho⟩ => ⟨he, hu.turn hc ho⟩
  generalize targV (newCli 2 5).L (newCli 2 5).n 1 (wrQ ⟨0, 0, 1, 1, 0, ⟨#[120]⟩⟩) = A0 at HAsk
  have HTa : Hid (∀ u b, KW w b k0 ea eb (.slice aa na ca) (.slice ab nb cb) u → Calls Try.prog 18 #[.pointer (some ⟨b, 0, none⟩), .int .i64 1, .agg #[.int .i64 ea, .slice aa na ca]] u fun e w' => e = .returned (.tuple #[]) ∧ KW w b (k0.tell ea la) ea eb (.slice aa na ca) (.slice ab nb cb) w') := fun u b hu =>
    (cltold_yes hu.co.c 1 ea _ la ((hA.keep hu.co.bel).mono hu.co.bel.size) ⟨⟨Nat.zero_lt_one, rfl⟩, d3, d3.1⟩).mono fun _ _ ⟨he, hc, ho⟩ => ⟨he, hu.turn hc ho⟩
  have HTb : Hid (∀ u b, KW w b (k0.tell ea la) ea eb (.slice aa na ca) (.slice ab nb cb) u → Calls Try.prog 18 #[.pointer (some ⟨b, 0, none⟩), .int .i64 1, .agg #[.int .i64 eb, .slice ab nb cb]] u fun e w' => e = .returned (.tuple #[]) ∧ KW w b (k0.tell ea la) ea eb (.slice aa na ca) (.slice ab nb cb) w') := fun u b hu =>
    (cltold_no hu.co.c 1 eb _ lb ((hB.keep hu.co.bel).mono hu.co.bel.size) (fun h => absurd (show ea ≤ eb from h.2.2) (by omega))).mono fun _ _ ⟨he, hb⟩ => ⟨he, hu.on hb⟩
  have htg : targV (k0.tell ea la).L (k0.tell ea la).n ((k0.tell ea la).tries + 1) (wrQ (k0.tell ea la).q) = la.getD 0 0 := by
    show targV la 5 2 true = _
    unfold targV
    rw [if_pos ⟨by omega, ask_of d3⟩, if_pos rfl]
  have HTk : Hid (∀ u b, KW w b (k0.tell ea la) ea eb (.slice aa na ca) (.slice ab nb cb) u → Calls Try.prog 19 #[.pointer (some ⟨b, 0, none⟩), .int .i64 8] u fun e w' => e = .returned (.tuple #[.int .i64 (la.getD 0 0), .bool true]) ∧ KW w b ((k0.tell ea la).tryAt 8) ea eb (.slice aa na ca) (.slice ab nb cb) w' ∧ Only (· = b) u w') := fun u b hu =>
    (cltick_yes hu.co.c 8 (by decide) ⟨Nat.zero_lt_one, by show (0 : Int) ≤ 8; decide, by show waitV 1 ≤ 8 - 0; decide⟩ (by show 1 ≤ 99999; omega)).mono fun _ _ ⟨he, hc, ho⟩ => ⟨he.trans (congrArg (fun z => Ending.returned (.tuple #[.int .i64 z, .bool true])) htg), hu.turn hc ho, ho⟩
  have HTr : Hid (∀ u b, KW w b ((k0.tell ea la).tryAt 8) ea eb (.slice aa na ca) (.slice ab nb cb) u → Calls Try.prog 20 #[.pointer (some ⟨b, 0, none⟩)] u fun e w' => e = .returned (.int .i64 2) ∧ u = w') := fun u b hu => cltries_r hu.co.c
  obtain ⟨rb, off, rfl, hrb, hrc⟩ := ha (by intro e; have h1 := d3.2.2.1; simp only at h1; rw [e] at h1; simp at h1)
  have hn0 : 0 < na := by have h1 := d3.2.2.1; simp only at h1; omega
  have hn1 : (0 : Int) < (na : Int) := by omega
  have HR : Hid (∀ u, Below w.heap.size w u → u.cell? ⟨rb, off, none⟩ = some (.int .i64 (la.getD 0 0))) := fun u hu => (hu.cell (p := ⟨rb, off, none⟩) hrb).trans (hrc 0 (by omega))
  generalize la.getD 0 0 = z0 at HTk HR
  clear htg hA hB hrc hrb hMA hMB hna hnb hw2 hxa hxb hW2 ha1 hb1 ha2 hb2 d1 d2 d3 d4 hb
  go_enter Try.func3, Try.ntmps3
  go_wp2_with fail
  rw [← HW.out]
  with_reducible refine (HCA.out _ HW2.out).mono ?_
  rintro e w3 ⟨rfl, b3⟩
  have HB3 := Lib.hid (HW2.out.trans (b3.mono HW2.out.size))
  have XA3 := Lib.hid (HXA.out.on b3)
  have XB3 := Lib.hid (HXB.out.on b3)
  clear b3 ca0 ca1 cb0 cb1 HXA HXB HW2 HW HCA
  obtain ⟨cb0, cb1⟩ := XB3.out.cells
  go_wp2_with fail
  with_reducible refine (HCB.out _ HB3.out).mono ?_
  rintro e w4 ⟨rfl, b4⟩
  have HB4 := Lib.hid (HB3.out.trans (b4.mono HB3.out.size))
  have XA4 := Lib.hid (XA3.out.on b4)
  have XB4 := Lib.hid (XB3.out.on b4)
  clear b4 cb0 cb1 XA3 XB3 HB3 HCB
  go_wp2_with fail
  with_reducible refine (HNew.out _ HB4.out XA4.out XB4.out).mono ?_
  rintro e w5 ⟨rfl, k5⟩
  have K5 := Lib.hid k5
  clear k5 XA4 XB4 HNew
  generalize w4.heap.size = b at K5 ⊢
  clear HB4
  go_wp2_with fail
  with_reducible refine (HAsk.out _ _ K5.out).mono ?_
  rintro e w6 ⟨rfl, k6⟩
  have K6 := Lib.hid k6
  clear k6 K5 HAsk
  obtain ⟨ca0, ca1⟩ := K6.out.a.cells
  go_wp2_with fail
  with_reducible refine (HTa.out _ _ K6.out).mono ?_
  rintro e w7 ⟨rfl, k7⟩
  have K7 := Lib.hid k7
  clear k7 K6 HTa ca0 ca1
  obtain ⟨cb0, cb1⟩ := K7.out.b2.cells
  go_wp2_with fail
  with_reducible refine (HTb.out _ _ K7.out).mono ?_
  rintro e w8 ⟨rfl, k8⟩
  have K8 := Lib.hid k8
  clear k8 K7 HTb cb0 cb1
  obtain ⟨ca0, ca1⟩ := K8.out.a.cells
  obtain ⟨cb0, cb1⟩ := K8.out.b2.cells
  have k9 : KW w b (k0.tell ea la) ea eb (.slice (some ⟨rb, off, none⟩) na ca) (.slice ab nb cb) (w8.alloc (.cells #[.int .i64 ea, .slice (some ⟨rb, off, none⟩) na ca] 24)) := K8.out.on ((Below.refl _ _).alloc (Nat.le_refl _) _)
  have x9 : ChAt (w8.alloc (.cells #[.int .i64 ea, .slice (some ⟨rb, off, none⟩) na ca] 24)) w8.heap.size ea (.slice (some ⟨rb, off, none⟩) na ca) := heap_alloc_new w8 _
  have hne : w8.heap.size ≠ b := by have := K8.out.co.c.lt; omega
  have K9 := Lib.hid k9
  have X9 := Lib.hid x9
  have HNE := Lib.hid hne
  have l1 : w.heap.size + 1 < w8.heap.size := lt_of_block K8.out.b2
  have l0 : w.heap.size < w8.heap.size := by omega
  clear k9 x9 hne K8
  go_wp2_with fail
  with_reducible refine (HTk.out _ _ K9.out).mono ?_
  rintro e w10 ⟨rfl, k10, o10⟩
  have K10 := Lib.hid k10
  have X10 := Lib.hid (X9.out.turn o10 HNE.out)
  clear k10 o10 K9 X9 HTk ca0 ca1 cb0 cb1 l0 l1
  go_wp2_with fail
  with_reducible refine (HT.out _).mono ?_
  rintro e w11 ⟨rfl, b11⟩
  have K11 := Lib.hid (K10.out.on b11)
  have X11 := Lib.hid (X10.out.on b11)
  clear b11 K10 X10
  obtain ⟨y0, y1⟩ := X11.out.cells
  have z1 := HR.out _ K11.out.co.bel
  go_wp2_with fail
  with_reducible refine (HTr.out _ _ K11.out).mono ?_
  rintro e w12 ⟨rfl, rfl⟩
  have HBE := Lib.hid K11.out.co.bel
  clear K11 X11 HTr
  go_wp2
  go_returns
  exact ⟨by first | rfl | (simp; done), HBE.out⟩

theorem walk (ea : Int) (va : Value) (la : List Int) (eb : Int) (vb : Value) (lb : List Int) (lt : Bool) (w : World) (hA : Ints w w.heap.size va la) (hB : Ints w w.heap.size vb lb) :
    Calls Try.prog 3 #[.agg #[.int .i64 ea, va], .agg #[.int .i64 eb, vb], .bool lt] w fun e w' => e = .returned (.bool true) ∧ Below w.heap.size w w' := by
  by_cases hg : la.length ≤ 8 ∧ lb.length ≤ 8 ∧ ChainV.may ⟨ea, la⟩ ∧ ChainV.may ⟨eb, lb⟩
  · obtain ⟨d1, d2, d3, d4⟩ := hg
    cases lt
    · rcases Int.lt_or_le eb ea with h | h
      · exact elder ea va la eb vb lb w hA hB d1 d2 d3 d4 h
      · exact newer ea va la eb vb lb w hA hB d1 d2 d3 d4 h
    · exact late ea va la eb vb lb w hA hB d1 d2 d3 d4
  · exact bad ea va la eb vb lb lt w hA hB hg

set_option maxRecDepth 100000 in
theorem lifted (os : Os) (started : os.Started) (H : Type) (enc : TypeId × Value → H) :
    ReturnsInHanded {} Try.checked os 3 .any (Rows.clientKnowsSpec.pre6 enc Try.prog Try.f3 Rows.clientKnowsRow.domain false) (Rows.clientKnowsSpec.post enc Try.prog Try.f3 false true false false) := by
  refine returnsInHanded_of_change (C := Try.checked) own started (by kernel_rfl) Try.func3
    (ChangeSpec.witness6 (enc := enc) (C := Try.checked) false ⟨#[], #[.agg #[.int .i64 0, .slice none 0 0], .agg #[.int .i64 0, .slice none 0 0], .bool false], []⟩ 8 (by kernel_rfl) (by kernel_rfl) (by kernel_rfl) (by kernel_rfl)) ?_
  intro W base args ds gs before hval0 hW hcnd _
  have hval : ∀ (j : Nat) t v, Try.f3.params[j]? = some t → args[j]? = some v → Value.okWide Try.prog W .any base t v := hval0
  have hW' := hW
  obtain ⟨p, q, hA0, hV, rfl, hfz, hnd⟩ := hW
  have hA : DataW.TrodAll enc Try.prog W 0 (fun _ => true) true Try.f3.params.toList args.toList ds p := hA0
  rw [Try.params3] at hA hval
  obtain ⟨v0, vs0, d0, ds0, p0, q0, hargs, rfl, rfl, h0, r0⟩ := trodAll_cons hA
  obtain ⟨v1, vs1, d1, ds1, p1, q1, rfl, rfl, rfl, h1, r1⟩ := trodAll_cons r0
  obtain ⟨v2, vs2, d2, ds2, p2, q2, rfl, rfl, rfl, h2, r2⟩ := trodAll_cons r1
  obtain ⟨rfl, rfl, rfl⟩ := trodAll_nil r2
  obtain rfl : args = #[v0, v1, v2] := by cases args; simp_all
  obtain ⟨rfl, rfl⟩ := trodVars_none hV
  have k0 := h0
  have lt0 : ∀ x ∈ p0, x.block < W.heap.size := by obtain ⟨m, hm⟩ := k0; exact DataW.trod_lt m _ _ _ hm
  obtain ⟨xa0, xb0, xc0, xd0, l0, rfl, w0⟩ := chain_open (hval 0 24 v0 rfl rfl) h0
  have k1 := h1
  have lt1 : ∀ x ∈ p1, x.block < W.heap.size := by obtain ⟨m, hm⟩ := k1; exact DataW.trod_lt m _ _ _ hm
  obtain ⟨xa1, xb1, xc1, xd1, l1, rfl, w1⟩ := chain_open (hval 1 24 v1 rfl rfl) h1
  obtain ⟨a2, rfl, rfl, rfl⟩ := open_bool Try.underlying4 (hval 2 4 v2 rfl rfl) h2
  clear hA0 hval0
  refine (walk xa0 (.slice xb0 xc0 xd0) l0 xa1 (.slice xb1 xc1 xd1) l1 a2 W w0 w1).mono fun e W' ⟨he, bel⟩ => ?_
  subst he
  exact ⟨_, rfl, _, _, _, [], _, [], hW', trodAll_mk1 (shut_bool Try.underlying4 _), (trodAll_cons_mk (Below.trod laidOut (by kernel_rfl) (of_decide_eq_true (by kernel_rfl)) k0 bel lt0) (trodAll_cons_mk (Below.trod laidOut (by kernel_rfl) (of_decide_eq_true (by kernel_rfl)) k1 bel lt1) (trodAll_cons_mk (shut_bool Try.underlying4 _) trodAll_mk0))), rfl, bel.frame _, fun h => by cases h⟩

theorem over : Rows.clientKnowsRow.holds Try.pinned (OpenSpec.ofChange Rows.clientKnowsSpec) :=
  OpenClaim.holds_of_wide 3 Try.f3 rfl rfl rfl rfl rfl rfl rfl ⟨rfl, rfl, rfl, rfl, rfl⟩ rfl rfl rfl rfl rfl (by kernel_rfl) Try.func3 (by kernel_rfl)
    (of_decide_eq_true (by kernel_rfl)) (by unfold Func.isWrapper; first | (rw [if_pos (by decide +kernel)]; kernel_rfl) | (rw [if_neg (by decide +kernel)]; exact ⟨rfl, rfl⟩))
    (fun os started H enc _ => lifted os started H enc)
end Go.Proofs.Ytpcbpimlakehcaa.ClientKnows

namespace Go.Proofs.Ytpcbpimlakehcaa
theorem clientKnows_holds : Rows.ClientKnowsSaid := ClientKnows.over
#print axioms clientKnows_holds
end Go.Proofs.Ytpcbpimlakehcaa
