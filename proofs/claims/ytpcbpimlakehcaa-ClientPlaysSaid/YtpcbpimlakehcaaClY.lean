/-
  A CLIENT's Tick, Told, Ask, by contract. No condition but that its numbers are such as a client has.
-/
import Derived.Test.YtpcbpimlakehcaaClX
namespace Go.Proofs.Ytpcbpimlakehcaa
open Go.RowKit

def dueV (s : CliV) (now : Int) : Prop := 0 < s.tries ∧ s.asked ≤ now ∧ waitV (s.tries : Int) ≤ now - s.asked
instance (s : CliV) (now : Int) : Decidable (dueV s now) := by unfold dueV; infer_instance
theorem CliV.try_ok {s : CliV} (h : s.ok) {now : Int} (h0 : 0 ≤ now) (h1 : now ≤ 9223372036854775807) (ht : 0 < s.tries) (ht2 : s.tries ≤ 99999) : (s.tryAt now).ok :=
  ⟨h.id4, h.n1, h.n5, h.sq, h0, h1, by show s.tries + 1 ≤ _; omega, h.ep0, h.ep1, h.ln, fun e => absurd (show s.tries + 1 = 0 from e) (by omega), fun _ => h.qm ht⟩

set_option maxRecDepth 100000 in
set_option maxHeartbeats 2000000 in
theorem cltick_no {w : World} {b : Nat} {s : CliV} (H : Cli w b s) (now : Int) (hw : now ≤ 9223372036854775807) (hd : ¬ dueV s now) :
    Calls Try.prog 19 #[.pointer (some ⟨b, 0, none⟩), .int .i64 now] w fun e w' => e = .returned (.tuple #[.int .i64 (-1), .bool false]) ∧ Below w.heap.size w w' := by
  obtain ⟨kv, hb, -⟩ := H.blk
  obtain ⟨M, hM⟩ : ∃ M, decide (0 < s.tries) = M := ⟨_, rfl⟩
  have HW : Hid (∀ u, Below w.heap.size w u → Calls Try.prog 54 #[.pointer (some ⟨b, 0, none⟩)] u fun e w' => e = .returned (.bool M) ∧ Below u.heap.size u w') := fun u hu => (clwaits_r (H.on hu) M hM).mono fun _ _ ⟨he, hw⟩ => ⟨he, hw ▸ Below.refl _ u⟩
  obtain ⟨D, hD⟩ : ∃ D, decide (s.asked ≤ now ∧ waitV (s.tries : Int) ≤ now - s.asked) = D := ⟨_, rfl⟩
  have HU : Hid (∀ u, Calls Try.prog 59 #[.int .i64 now, .int .i64 s.asked, .int .i64 s.tries] u fun e w' => e = .returned (.bool D) ∧ Below u.heap.size u w') := fun u => redue_any now s.asked s.tries u H.ok.as0 hw D hD
  have FX : Hid (∀ u, Below w.heap.size w u → u.cell? ⟨b, 11, none⟩ = some (.int .i64 s.asked) ∧ u.cell? ⟨b, 12, none⟩ = some (.int .i64 s.tries)) := fun u hu => by
    obtain ⟨_, _, _, _, _, _, _, _, _, _, _, c11, c12⟩ := Cli.cells ((hu.block b (lt_of_block hb)).trans hb)
    exact ⟨c11, c12⟩
  have HN : Hid (M = false ∨ D = false) := by
    show _ ∨ _
    by_cases h : 0 < s.tries
    · exact Or.inr (hD.symm.trans (decide_eq_false fun h2 => hd ⟨h, h2⟩))
    · exact Or.inl (hM.symm.trans (decide_eq_false h))
  clear H hb hM hD hd hw
  cases M
  · clear HN
    go_enter Try.func19, Try.ntmps19
    go_wp2_with fail
    refine region_quiet (fun v => Below w.heap.size w v) (by kernel_rfl) (by kernel_rfl) (Below.refl _ _).drew ?_
    repeat (first
      | go_big_quiet_skip
      | (go_big_quiet_want
         (first
          | (refine quiet_run (v := ?_) ?_ ?_; rotate_left; (intro u hu; obtain ⟨c11, c12⟩ := FX.out u hu; go_simp <;> with_reducible rfl); simp only [Act.put, List.setIfInBounds_toArray, List.set_cons_zero, List.set_cons_succ]; go_big_quiet_on)
          | (refine quiet_enter 54 _ ?_ (fun u hu => (HW.out u hu).mono fun e u' ⟨he, hb⟩ => ⟨he, hu.trans (hb.mono hu.size)⟩) ?_; (focus (intro u; first | (go_simp; done) | (go_simp; with_reducible rfl))); simp only [Act.put, List.setIfInBounds_toArray, List.set_cons_zero, List.set_cons_succ]; go_big_quiet_on)
          | (refine quiet_enter 59 _ ?_ (fun u hu => (HU.out u).mono fun e u' ⟨he, hb⟩ => ⟨he, hu.trans (hb.mono hu.size)⟩) ?_; (focus (intro u; first | (go_simp; done) | (go_simp; with_reducible rfl))); simp only [Act.put, List.setIfInBounds_toArray, List.set_cons_zero, List.set_cons_succ]; go_big_quiet_on))))
    refine wpQuiet_nil ?_
    intro w4 h4
    have C4 : Hid (Below w.heap.size w w4) := h4
    clear FX HW HU h4
    go_wp2
    go_returns
    exact ⟨rfl, C4.out⟩
  · obtain rfl : D = false := by
      rcases HN.out with h | h
      · cases h
      · exact h
    clear HN
    go_enter Try.func19, Try.ntmps19
    go_wp2_with fail
    refine region_quiet (fun v => Below w.heap.size w v) (by kernel_rfl) (by kernel_rfl) (Below.refl _ _).drew ?_
    repeat (first
      | go_big_quiet_skip
      | (go_big_quiet_want
         (first
          | (refine quiet_run (v := ?_) ?_ ?_; rotate_left; (intro u hu; obtain ⟨c11, c12⟩ := FX.out u hu; go_simp <;> with_reducible rfl); simp only [Act.put, List.setIfInBounds_toArray, List.set_cons_zero, List.set_cons_succ]; go_big_quiet_on)
          | (refine quiet_enter 54 _ ?_ (fun u hu => (HW.out u hu).mono fun e u' ⟨he, hb⟩ => ⟨he, hu.trans (hb.mono hu.size)⟩) ?_; (focus (intro u; first | (go_simp; done) | (go_simp; with_reducible rfl))); simp only [Act.put, List.setIfInBounds_toArray, List.set_cons_zero, List.set_cons_succ]; go_big_quiet_on)
          | (refine quiet_enter 59 _ ?_ (fun u hu => (HU.out u).mono fun e u' ⟨he, hb⟩ => ⟨he, hu.trans (hb.mono hu.size)⟩) ?_; (focus (intro u; first | (go_simp; done) | (go_simp; with_reducible rfl))); simp only [Act.put, List.setIfInBounds_toArray, List.set_cons_zero, List.set_cons_succ]; go_big_quiet_on))))
    refine wpQuiet_nil ?_
    intro w4 h4
    have C4 : Hid (Below w.heap.size w w4) := h4
    clear FX HW HU h4
    go_wp2
    go_returns
    exact ⟨rfl, C4.out⟩

set_option maxRecDepth 100000 in
set_option maxHeartbeats 2000000 in
theorem cltick_yes {w : World} {b : Nat} {s : CliV} (H : Cli w b s) (now : Int) (hw : now ≤ 9223372036854775807) (hd : dueV s now) (ht : s.tries ≤ 99999) :
    Calls Try.prog 19 #[.pointer (some ⟨b, 0, none⟩), .int .i64 now] w fun e w' => e = .returned (.tuple #[.int .i64 (targV s.L s.n (s.tries + 1) (wrQ s.q)), .bool true]) ∧ Cli w' b (s.tryAt now) ∧ Only (· = b) w w' := by
  obtain ⟨kv, hb, -⟩ := H.blk
  obtain ⟨M, hM⟩ : ∃ M, decide (0 < s.tries) = M := ⟨_, rfl⟩
  have HW : Hid (∀ u, Below w.heap.size w u → Calls Try.prog 54 #[.pointer (some ⟨b, 0, none⟩)] u fun e w' => e = .returned (.bool M) ∧ Below u.heap.size u w') := fun u hu => (clwaits_r (H.on hu) M hM).mono fun _ _ ⟨he, hw⟩ => ⟨he, hw ▸ Below.refl _ u⟩
  obtain ⟨D, hD⟩ : ∃ D, decide (s.asked ≤ now ∧ waitV (s.tries : Int) ≤ now - s.asked) = D := ⟨_, rfl⟩
  have HU : Hid (∀ u, Calls Try.prog 59 #[.int .i64 now, .int .i64 s.asked, .int .i64 s.tries] u fun e w' => e = .returned (.bool D) ∧ Below u.heap.size u w') := fun u => redue_any now s.asked s.tries u H.ok.as0 hw D hD
  have FX : Hid (∀ u, Below w.heap.size w u → u.cell? ⟨b, 11, none⟩ = some (.int .i64 s.asked) ∧ u.cell? ⟨b, 12, none⟩ = some (.int .i64 s.tries)) := fun u hu => by
    obtain ⟨_, _, _, _, _, _, _, _, _, _, _, c11, c12⟩ := Cli.cells ((hu.block b (lt_of_block hb)).trans hb)
    exact ⟨c11, c12⟩
  obtain rfl : M = true := hM.symm.trans (decide_eq_true hd.1)
  obtain rfl : D = true := hD.symm.trans (decide_eq_true hd.2)
  have HK : Hid (∀ u, Below w.heap.size w u → Calls Try.prog 55 #[.pointer (some ⟨b, 0, none⟩), .int .i64 now] u fun e w' => e = .returned (.int .i64 (targV s.L s.n (s.tries + 1) (wrQ s.q))) ∧ CliB w' b (s.tryAt now) ∧ Only (· = b) u w') := fun u hu => cltry_r (H.on hu).blk now H.ok.n1 H.ok.n5 ht
  have HO : Hid (s.tryAt now).ok := CliV.try_ok H.ok (by have := H.ok.as0; have := hd.2.1; omega) hw hd.1 ht
  generalize targV s.L s.n (s.tries + 1) (wrQ s.q) = T at HK ⊢
  clear H hb hM hD hd hw ht
  go_enter Try.func19, Try.ntmps19
  go_wp2_with fail
  refine region_quiet (fun v => Below w.heap.size w v) (by kernel_rfl) (by kernel_rfl) (Below.refl _ _).drew ?_
  repeat (first
    | go_big_quiet_skip
    | (go_big_quiet_want
       (first
        | (refine quiet_run (v := ?_) ?_ ?_; rotate_left; (intro u hu; obtain ⟨c11, c12⟩ := FX.out u hu; go_simp <;> with_reducible rfl); simp only [Act.put, List.setIfInBounds_toArray, List.set_cons_zero, List.set_cons_succ]; go_big_quiet_on)
        | (refine quiet_enter 54 _ ?_ (fun u hu => (HW.out u hu).mono fun e u' ⟨he, hb⟩ => ⟨he, hu.trans (hb.mono hu.size)⟩) ?_; (focus (intro u; first | (go_simp; done) | (go_simp; with_reducible rfl))); simp only [Act.put, List.setIfInBounds_toArray, List.set_cons_zero, List.set_cons_succ]; go_big_quiet_on)
        | (refine quiet_enter 59 _ ?_ (fun u hu => (HU.out u).mono fun e u' ⟨he, hb⟩ => ⟨he, hu.trans (hb.mono hu.size)⟩) ?_; (focus (intro u; first | (go_simp; done) | (go_simp; with_reducible rfl))); simp only [Act.put, List.setIfInBounds_toArray, List.set_cons_zero, List.set_cons_succ]; go_big_quiet_on))))
  refine wpQuiet_nil ?_
  intro w4 h4
  have C4 := Lib.hid (HK.out w4 h4)
  have O4 : Hid (Below w.heap.size w w4) := h4
  clear FX HW HU HK h4
  go_wp2_with fail
  with_reducible refine C4.out.mono ?_
  rintro e w5 ⟨rfl, b5, o5⟩
  have B5 := Lib.hid b5
  have O5 : Hid (Only (· = b) w w5) := (Only.of (S := (· = b)) O4.out).trans o5
  clear b5 o5
  go_wp2
  go_returns
  exact ⟨rfl, ⟨B5.out, HO.out⟩, O5.out⟩

/-! ### Told -/
def tellV (s : CliV) (k ep : Int) (L : List Int) : Prop := forV s k ∧ ChainV.may ⟨ep, L⟩ ∧ s.ep ≤ ep
instance (s : CliV) (k ep : Int) (L : List Int) : Decidable (tellV s k ep L) := by unfold tellV; infer_instance
def CliV.tell (s : CliV) (ep : Int) (L : List Int) : CliV := { s with ep := ep, L := L }
theorem CliV.tell_ok {s : CliV} (h : s.ok) {ep : Int} {L : List Int} (hm : ChainV.may ⟨ep, L⟩) : (s.tell ep L).ok := by
  exact ⟨h.id4, h.n1, h.n5, h.sq, h.as0, h.as1, h.tr, hm.1, hm.2.1, hm.2.2.2.1, h.zq, h.qm⟩
theorem chain_ty : (24 : TypeId) ≠ 3 := by decide
theorem set_tell (s : CliV) (kv v : Value) (ep : Int) (L : List Int) : ((cliCells s kv).setIfInBounds 3 (.int .i64 ep)).setIfInBounds 4 v = cliCells (s.tell ep L) v := by simp [cliCells, CliV.tell]
theorem CliB.tell {w : World} {b : Nat} {s : CliV} (H : CliB w b s) (ep : Int) (v : Value) (L : List Int) (hr : RowI w v L) :
    CliB ((w.setCell ⟨b, 3, none⟩ (.int .i64 ep)).setCell ⟨b, 4, none⟩ v) b (s.tell ep L) ∧ Only (· = b) w ((w.setCell ⟨b, 3, none⟩ (.int .i64 ep)).setCell ⟨b, 4, none⟩ v) := by
  obtain ⟨kv, h, -⟩ := H
  have ho := (Only.set b 3 w (.int .i64 ep)).trans (Only.set b 4 _ v)
  have e : ((w.setCell ⟨b, 3, none⟩ (.int .i64 ep)).setCell ⟨b, 4, none⟩ v).heap[b]? = some (.cells (((cliCells s kv).setIfInBounds 3 (.int .i64 ep)).setIfInBounds 4 v) 91 (0, 0)) := by rw [heap_setCell_same _ _ _ _ _ _ (heap_setCell_same _ _ _ _ _ _ h)]
  rw [set_tell s kv v ep L] at e
  exact ⟨⟨v, e, hr.beside h cli_ty ho⟩, ho⟩

set_option maxRecDepth 100000 in
set_option maxHeartbeats 2000000 in
theorem cltold_no {w : World} {b : Nat} {s : CliV} (H : Cli w b s) (k ep : Int) (v : Value) (L : List Int) (hI : Ints w w.heap.size v L) (hd : ¬ tellV s k ep L) :
    Calls Try.prog 18 #[.pointer (some ⟨b, 0, none⟩), .int .i64 k, .agg #[.int .i64 ep, v]] w fun e w' => e = .returned (.tuple #[]) ∧ Below w.heap.size w w' := by
  have hb1 : Below w.heap.size w (w.alloc (.cells #[.int .i64 ep, v] 24)) := (Below.refl _ w).alloc (Nat.le_refl _) _
  obtain ⟨W1, hW1⟩ : ∃ W1, W1 = w.alloc (.cells #[.int .i64 ep, v] 24) := ⟨_, rfl⟩
  have hq1 : W1.heap[w.heap.size]? = some (.cells #[.int .i64 ep, v] 24 (0, 0)) := by rw [hW1]; exact heap_alloc_new w _
  rw [← hW1] at hb1
  have HB1 := Lib.hid hb1
  have H1 := Lib.hid (H.on hb1)
  have HQ := Lib.hid hq1
  have hI1 : Ints W1 W1.heap.size v L := (hI.keep hb1).mono hb1.size
  have HI := Lib.hid hI1
  have HLT := Lib.hid H.lt
  obtain ⟨F, hF⟩ : ∃ F, decide (forV s k) = F := ⟨_, rfl⟩
  obtain ⟨M, hM⟩ : ∃ M, M = decide (ChainV.may ⟨ep, L⟩) := ⟨_, rfl⟩
  have HF : Hid (∀ u, Below W1.heap.size W1 u → Calls Try.prog 56 #[.pointer (some ⟨b, 0, none⟩), .int .i64 k] u fun e w' => e = .returned (.bool F) ∧ Below u.heap.size u w') := fun u hu => (clfor_r (H1.out.on hu) k F hF).mono fun _ _ ⟨he, hw⟩ => ⟨he, hw ▸ Below.refl _ u⟩
  have HM : Hid (∀ u, Below W1.heap.size W1 u → Calls Try.prog 57 #[.agg #[.int .i64 ep, v]] u fun e w' => e = .returned (.bool M) ∧ Below u.heap.size u w') := fun u hu => maychain_r ep v L W1.heap.size u (HI.out.keep hu) hu.size M hM
  have FX : Hid (∀ u, Below W1.heap.size W1 u → u.cell? ⟨w.heap.size, 0, none⟩ = some (.int .i64 ep) ∧ u.cell? ⟨w.heap.size, 1, none⟩ = some v ∧ u.cell? ⟨b, 3, none⟩ = some (.int .i64 s.ep)) := fun u hu => by
    obtain ⟨kv, hb, -⟩ := (H1.out.on hu).blk
    obtain ⟨_, _, _, c3, _⟩ := Cli.cells hb
    have h := (hu.block _ (lt_of_block HQ.out)).trans HQ.out
    exact ⟨by simp [World.cell?, h], by simp [World.cell?, h], c3⟩
  have HN : Hid (F = false ∨ (F = true ∧ M = false) ∨ (F = true ∧ M = true ∧ ep < s.ep)) := by
    show _ ∨ _
    by_cases h : forV s k
    · have e1 : F = true := hF.symm.trans (decide_eq_true h)
      by_cases h2 : ChainV.may ⟨ep, L⟩
      · exact Or.inr (Or.inr ⟨e1, hM.trans (decide_eq_true h2), by
          rcases Int.lt_or_le ep s.ep with h3 | h3
          · exact h3
          · exact absurd ⟨h, h2, h3⟩ hd⟩)
      · exact Or.inr (Or.inl ⟨e1, hM.trans (decide_eq_false h2)⟩)
    · exact Or.inl (hF.symm.trans (decide_eq_false h))
  have HW := Lib.hid hW1
  clear H hb1 hq1 hI hI1 hd hF hM hW1
  rcases HN.out with h | ⟨h, h2⟩ | ⟨h, h2, h3⟩
  · subst h
    clear HN
    go_enter Try.func18, Try.ntmps18
    go_wp2_with fail
    rw [← HW.out]
    clear HW
    refine region_quiet (fun v => Below W1.heap.size W1 v) (by kernel_rfl) (by kernel_rfl) (Below.refl _ _).drew ?_
    repeat (first
      | go_big_quiet_skip
      | (go_big_quiet_want
         (first
          | (refine quiet_run (v := ?_) ?_ ?_; rotate_left; (intro u hu; obtain ⟨c0, c1, c3⟩ := FX.out u hu; go_simp <;> with_reducible rfl); simp only [Act.put, List.setIfInBounds_toArray, List.set_cons_zero, List.set_cons_succ]; go_big_quiet_on)
          | (refine quiet_enter 56 _ ?_ (fun u hu => (HF.out u hu).mono fun e u' ⟨he, hb⟩ => ⟨he, hu.trans (hb.mono hu.size)⟩) ?_; (focus (intro u; first | (go_simp; done) | (go_simp; with_reducible rfl))); simp only [Act.put, List.setIfInBounds_toArray, List.set_cons_zero, List.set_cons_succ]; go_big_quiet_on)
          | (refine quiet_enter 57 _ ?_ (fun u hu => (HM.out u hu).mono fun e u' ⟨he, hb⟩ => ⟨he, hu.trans (hb.mono hu.size)⟩) ?_; (focus (intro u; first | (go_simp; done) | (go_simp; with_reducible rfl))); simp only [Act.put, List.setIfInBounds_toArray, List.set_cons_zero, List.set_cons_succ]; go_big_quiet_on))))
    refine wpQuiet_nil ?_
    intro w4 h4
    have C4 : Hid (Below w.heap.size w w4) := HB1.out.trans (h4.mono HB1.out.size)
    clear FX HF HM h4 H1 HQ HI
    go_wp2
    go_returns
    exact ⟨rfl, C4.out⟩
  · subst h
    subst h2
    clear HN
    go_enter Try.func18, Try.ntmps18
    go_wp2_with fail
    rw [← HW.out]
    clear HW
    refine region_quiet (fun v => Below W1.heap.size W1 v) (by kernel_rfl) (by kernel_rfl) (Below.refl _ _).drew ?_
    repeat (first
      | go_big_quiet_skip
      | (go_big_quiet_want
         (first
          | (refine quiet_run (v := ?_) ?_ ?_; rotate_left; (intro u hu; obtain ⟨c0, c1, c3⟩ := FX.out u hu; go_simp <;> with_reducible rfl); simp only [Act.put, List.setIfInBounds_toArray, List.set_cons_zero, List.set_cons_succ]; go_big_quiet_on)
          | (refine quiet_enter 56 _ ?_ (fun u hu => (HF.out u hu).mono fun e u' ⟨he, hb⟩ => ⟨he, hu.trans (hb.mono hu.size)⟩) ?_; (focus (intro u; first | (go_simp; done) | (go_simp; with_reducible rfl))); simp only [Act.put, List.setIfInBounds_toArray, List.set_cons_zero, List.set_cons_succ]; go_big_quiet_on)
          | (refine quiet_enter 57 _ ?_ (fun u hu => (HM.out u hu).mono fun e u' ⟨he, hb⟩ => ⟨he, hu.trans (hb.mono hu.size)⟩) ?_; (focus (intro u; first | (go_simp; done) | (go_simp; with_reducible rfl))); simp only [Act.put, List.setIfInBounds_toArray, List.set_cons_zero, List.set_cons_succ]; go_big_quiet_on))))
    refine wpQuiet_nil ?_
    intro w4 h4
    have C4 : Hid (Below w.heap.size w w4) := HB1.out.trans (h4.mono HB1.out.size)
    clear FX HF HM h4 H1 HQ HI
    go_wp2
    go_returns
    exact ⟨rfl, C4.out⟩
  · subst h
    subst h2
    clear HN
    go_enter Try.func18, Try.ntmps18
    go_wp2_with fail
    rw [← HW.out]
    clear HW
    refine region_quiet (fun v => Below W1.heap.size W1 v) (by kernel_rfl) (by kernel_rfl) (Below.refl _ _).drew ?_
    repeat (first
      | go_big_quiet_skip
      | (go_big_quiet_want
         (first
          | (refine quiet_run (v := ?_) ?_ ?_; rotate_left; (intro u hu; obtain ⟨c0, c1, c3⟩ := FX.out u hu; go_simp <;> with_reducible rfl); simp only [Act.put, List.setIfInBounds_toArray, List.set_cons_zero, List.set_cons_succ]; go_big_quiet_on)
          | (refine quiet_enter 56 _ ?_ (fun u hu => (HF.out u hu).mono fun e u' ⟨he, hb⟩ => ⟨he, hu.trans (hb.mono hu.size)⟩) ?_; (focus (intro u; first | (go_simp; done) | (go_simp; with_reducible rfl))); simp only [Act.put, List.setIfInBounds_toArray, List.set_cons_zero, List.set_cons_succ]; go_big_quiet_on)
          | (refine quiet_enter 57 _ ?_ (fun u hu => (HM.out u hu).mono fun e u' ⟨he, hb⟩ => ⟨he, hu.trans (hb.mono hu.size)⟩) ?_; (focus (intro u; first | (go_simp; done) | (go_simp; with_reducible rfl))); simp only [Act.put, List.setIfInBounds_toArray, List.set_cons_zero, List.set_cons_succ]; go_big_quiet_on))))
    refine wpQuiet_nil ?_
    intro w4 h4
    have C4 : Hid (Below w.heap.size w w4) := HB1.out.trans (h4.mono HB1.out.size)
    clear FX HF HM h4 H1 HQ HI
    go_wp2
    go_returns
    exact ⟨rfl, C4.out⟩

set_option maxRecDepth 100000 in
set_option maxHeartbeats 2000000 in
theorem cltold_yes {w : World} {b : Nat} {s : CliV} (H : Cli w b s) (k ep : Int) (v : Value) (L : List Int) (hI : Ints w w.heap.size v L) (hd : tellV s k ep L) :
    Calls Try.prog 18 #[.pointer (some ⟨b, 0, none⟩), .int .i64 k, .agg #[.int .i64 ep, v]] w fun e w' => e = .returned (.tuple #[]) ∧ Cli w' b (s.tell ep L) ∧ Only (· = b) w w' := by
  have hb1 : Below w.heap.size w (w.alloc (.cells #[.int .i64 ep, v] 24)) := (Below.refl _ w).alloc (Nat.le_refl _) _
  obtain ⟨W1, hW1⟩ : ∃ W1, W1 = w.alloc (.cells #[.int .i64 ep, v] 24) := ⟨_, rfl⟩
  have hq1 : W1.heap[w.heap.size]? = some (.cells #[.int .i64 ep, v] 24 (0, 0)) := by rw [hW1]; exact heap_alloc_new w _
  rw [← hW1] at hb1
  have HB1 := Lib.hid hb1
  have H1 := Lib.hid (H.on hb1)
  have HQ := Lib.hid hq1
  have hI1 : Ints W1 W1.heap.size v L := (hI.keep hb1).mono hb1.size
  have HI := Lib.hid hI1
  have HLT := Lib.hid H.lt
  obtain ⟨F, hF⟩ : ∃ F, decide (forV s k) = F := ⟨_, rfl⟩
  obtain ⟨M, hM⟩ : ∃ M, M = decide (ChainV.may ⟨ep, L⟩) := ⟨_, rfl⟩
  have HF : Hid (∀ u, Below W1.heap.size W1 u → Calls Try.prog 56 #[.pointer (some ⟨b, 0, none⟩), .int .i64 k] u fun e w' => e = .returned (.bool F) ∧ Below u.heap.size u w') := fun u hu => (clfor_r (H1.out.on hu) k F hF).mono fun _ _ ⟨he, hw⟩ => ⟨he, hw ▸ Below.refl _ u⟩
  have HM : Hid (∀ u, Below W1.heap.size W1 u → Calls Try.prog 57 #[.agg #[.int .i64 ep, v]] u fun e w' => e = .returned (.bool M) ∧ Below u.heap.size u w') := fun u hu => maychain_r ep v L W1.heap.size u (HI.out.keep hu) hu.size M hM
  have FX : Hid (∀ u, Below W1.heap.size W1 u → u.cell? ⟨w.heap.size, 0, none⟩ = some (.int .i64 ep) ∧ u.cell? ⟨w.heap.size, 1, none⟩ = some v ∧ u.cell? ⟨b, 3, none⟩ = some (.int .i64 s.ep)) := fun u hu => by
    obtain ⟨kv, hb, -⟩ := (H1.out.on hu).blk
    obtain ⟨_, _, _, c3, _⟩ := Cli.cells hb
    have h := (hu.block _ (lt_of_block HQ.out)).trans HQ.out
    exact ⟨by simp [World.cell?, h], by simp [World.cell?, h], c3⟩
  obtain ⟨d1, d2, d3⟩ := hd
  have hlen : L.length ≤ 5 := d2.2.2.2.1
  obtain rfl : F = true := hF.symm.trans (decide_eq_true d1)
  obtain rfl : M = true := hM.trans (decide_eq_true d2)
  have d4 : ¬ ep < s.ep := by omega
  have HO : Hid (s.tell ep L).ok := CliV.tell_ok H.ok d2
  have HC : Hid (∀ u, Below W1.heap.size W1 u → Calls Try.prog 58 #[v] u (CloneR L u)) := fun u hu => by
    obtain ⟨a, c, rfl, _⟩ := id HI.out
    exact pclone_r a _ c L W1.heap.size u (HI.out.keep hu) hu.size (by omega)
  have HW := Lib.hid hW1
  clear H hb1 hq1 hI hI1 hF hM hW1 d1 d2 d3 hlen
  go_enter Try.func18, Try.ntmps18
  go_wp2_with fail
  rw [← HW.out]
  clear HW
  refine region_quiet (fun v => Below W1.heap.size W1 v) (by kernel_rfl) (by kernel_rfl) (Below.refl _ _).drew ?_
  repeat (first
    | go_big_quiet_skip
    | (go_big_quiet_want
       (first
        | (refine quiet_run (v := ?_) ?_ ?_; rotate_left; (intro u hu; obtain ⟨c0, c1, c3⟩ := FX.out u hu; go_simp <;> with_reducible rfl); simp only [Act.put, List.setIfInBounds_toArray, List.set_cons_zero, List.set_cons_succ]; go_big_quiet_on)
        | (refine quiet_enter 56 _ ?_ (fun u hu => (HF.out u hu).mono fun e u' ⟨he, hb⟩ => ⟨he, hu.trans (hb.mono hu.size)⟩) ?_; (focus (intro u; first | (go_simp; done) | (go_simp; with_reducible rfl))); simp only [Act.put, List.setIfInBounds_toArray, List.set_cons_zero, List.set_cons_succ]; go_big_quiet_on)
        | (refine quiet_enter 57 _ ?_ (fun u hu => (HM.out u hu).mono fun e u' ⟨he, hb⟩ => ⟨he, hu.trans (hb.mono hu.size)⟩) ?_; (focus (intro u; first | (go_simp; done) | (go_simp; with_reducible rfl))); simp only [Act.put, List.setIfInBounds_toArray, List.set_cons_zero, List.set_cons_succ]; go_big_quiet_on))))
  refine wpQuiet_nil ?_
  intro w4 h4
  have O4 := Lib.hid h4
  obtain ⟨c0, c1, -⟩ := FX.out w4 h4
  have C4 := Lib.hid (HC.out w4 h4)
  clear HC FX HF HM h4
  go_wp2_with fail
  with_reducible refine C4.out.mono ?_
  rintro e w5 ⟨v', rfl, hown, b5⟩
  have r5 := RowI.own hown
  obtain ⟨a', c', hv'⟩ := r5.shape
  obtain ⟨ln, hln⟩ : ∃ ln, ln = L.length := ⟨_, rfl⟩
  rw [← hln] at hv'
  subst hv'
  have R5 := Lib.hid r5
  clear r5 hln
  have O5 := Lib.hid (O4.out.trans (b5.mono O4.out.size))
  clear hown b5 C4 O4 c0 c1
  have h5 := (H1.out.on O5.out).blk
  have hq := (O5.out.block _ (lt_of_block HQ.out)).trans HQ.out
  have hne : ¬ w.heap.size = b := by have := HLT.out; omega
  have hne2 : ¬ b = w.heap.size := by have := HLT.out; omega
  have o6 : Only (· = w.heap.size) w5 (w5.setCell ⟨w.heap.size, 1, none⟩ (.slice a' ln c')) := Only.set _ _ _ _
  have r6 : RowI (w5.setCell ⟨w.heap.size, 1, none⟩ (.slice a' ln c')) (.slice a' ln c') L := R5.out.beside hq chain_ty o6
  have h6 : CliB (w5.setCell ⟨w.heap.size, 1, none⟩ (.slice a' ln c')) b s := h5.keep o6 (by omega) (fun k cs hk e => by
    subst e
    rw [hq] at hk
    simp only [Option.some.injEq, Obj.cells.injEq] at hk
    exact absurd hk.2.1 chain_ty)
  obtain ⟨b7, o7⟩ := h6.tell ep (.slice a' ln c') L r6
  have B7 := Lib.hid b7
  have O7 : Hid (Only (· = b) w (((w5.setCell ⟨w.heap.size, 1, none⟩ (.slice a' ln c')).setCell ⟨b, 3, none⟩ (.int .i64 ep)).setCell ⟨b, 4, none⟩ (.slice a' ln c'))) :=
    (((Only.of (S := (· = b)) HB1.out).trans ((Only.of (O5.out.mono (Nat.le_refl _))))).then o6 (fun x hx e => absurd e (by omega))).trans o7
  obtain ⟨kv, hb, -⟩ := h5
  obtain ⟨-, -, -, x3, x4, -⟩ := Cli.cells hb
  have f3 := Cli.free hb 3
  have f4 := Cli.free hb 4
  have y0 : w5.cell? ⟨w.heap.size, 0, none⟩ = some (.int .i64 ep) := by simp [World.cell?, hq]
  have y1 : w5.cell? ⟨w.heap.size, 1, none⟩ = some v := by simp [World.cell?, hq]
  have z1 : w5.frozen? ⟨w.heap.size, 1, none⟩ = false := by simp [World.frozen?, hq]
  clear h6 r6 o6 hq b7 o7 hb
  go_wp2
  go_returns
  exact ⟨rfl, ⟨B7.out, HO.out⟩, O7.out⟩
end Go.Proofs.Ytpcbpimlakehcaa
