/-
  THE REFERENCE'S CLIENT: Told, by contract. No condition but that its numbers are such as a client has.
-/
import Derived.Test.YtpcbpimlakehcaaClQA
namespace Go.Proofs.Ytpcbpimlakehcaa
open Go.RowKit

theorem qset_tell (s : CliV) (a : Int) (kv v : Value) (ep : Int) (L : List Int) : ((qclCells s a kv).setIfInBounds 11 (.int .i64 ep)).setIfInBounds 12 v = qclCells (s.tell ep L) a v := by simp [qclCells, CliV.tell]
theorem QClB.tell {w : World} {b : Nat} {s : CliV} (H : QClB w b s) (ep : Int) (v : Value) (L : List Int) (hr : RowI w v L) :
    QClB ((w.setCell ⟨b, 11, none⟩ (.int .i64 ep)).setCell ⟨b, 12, none⟩ v) b (s.tell ep L) ∧ Only (· = b) w ((w.setCell ⟨b, 11, none⟩ (.int .i64 ep)).setCell ⟨b, 12, none⟩ v) := by
  obtain ⟨a, kv, h, -, ha⟩ := H
  have ho := (Only.set b 11 w (.int .i64 ep)).trans (Only.set b 12 _ v)
  have e : ((w.setCell ⟨b, 11, none⟩ (.int .i64 ep)).setCell ⟨b, 12, none⟩ v).heap[b]? = some (.cells (((qclCells s a kv).setIfInBounds 11 (.int .i64 ep)).setIfInBounds 12 v) 42 (0, 0)) := by rw [heap_setCell_same _ _ _ _ _ _ (heap_setCell_same _ _ _ _ _ _ h)]
  rw [qset_tell s a kv v ep L] at e
  exact ⟨⟨a, v, e, hr.beside h qcli_ty ho, ha⟩, ho⟩

set_option maxRecDepth 100000 in
set_option maxHeartbeats 4000000 in
theorem qcltold_no {w : World} {b : Nat} {s : CliV} (H : QClB w b s) (ok : s.ok) (k ep : Int) (v : Value) (L : List Int) (hI : Ints w w.heap.size v L) (hd : ¬ tellV s k ep L) :
    Calls Try.prog 23 #[.pointer (some ⟨b, 0, none⟩), .int .i64 k, .agg #[.int .i64 ep, v]] w fun e w' => e = .returned (.tuple #[]) ∧ Below w.heap.size w w' := by
  obtain ⟨a0, c0, rfl, _⟩ := id hI
  obtain ⟨m, hm⟩ : ∃ m, m = L.length := ⟨_, rfl⟩
  rw [← hm] at hI ⊢
  have hb1 : Below w.heap.size w (w.alloc (.cells #[.int .i64 ep, .slice a0 m c0] 24)) := (Below.refl _ w).alloc (Nat.le_refl _) _
  obtain ⟨W1, hW1⟩ : ∃ W1, W1 = w.alloc (.cells #[.int .i64 ep, .slice a0 m c0] 24) := ⟨_, rfl⟩
  have hq1 : W1.heap[w.heap.size]? = some (.cells #[.int .i64 ep, .slice a0 m c0] 24 (0, 0)) := by rw [hW1]; exact heap_alloc_new w _
  rw [← hW1] at hb1
  have HB1 := Lib.hid hb1
  have H1 := Lib.hid (H.on hb1)
  have HQ := Lib.hid hq1
  have hI1 : Ints W1 W1.heap.size (.slice a0 m c0) L := (hI.keep hb1).mono hb1.size
  have HI := Lib.hid hI1
  have HLT := Lib.hid H.lt
  have HFo : Hid (forV s k ↔ 0 < s.tries ∧ k = (s.seq : Int)) := by
    unfold forV
    exact ⟨fun h => ⟨h.1, by rw [← (ok.qm h.1).2.2]; exact h.2.symm⟩, fun h => ⟨h.1, by rw [(ok.qm h.1).2.2]; exact h.2.symm⟩⟩
  obtain ⟨M, hM⟩ : ∃ M, M = decide (ChainV.may ⟨ep, L⟩) := ⟨_, rfl⟩
  obtain ⟨t, ht⟩ : ∃ t, t = s.tries := ⟨_, rfl⟩
  obtain ⟨sq, hsq⟩ : ∃ n, n = s.seq := ⟨_, rfl⟩
  obtain ⟨e0, he0⟩ : ∃ n, n = s.ep := ⟨_, rfl⟩
  have HM : Hid (∀ u, Below W1.heap.size W1 u → Calls Try.prog 14 #[.agg #[.int .i64 ep, .slice a0 m c0]] u fun e w' => e = .returned (.bool M) ∧ Below u.heap.size u w') := fun u hu => refmaychain_r ep _ L W1.heap.size u (HI.out.keep hu) hu.size M hM
  have FX : Hid (∀ u, Below W1.heap.size W1 u → u.cell? ⟨w.heap.size, 0, none⟩ = some (.int .i64 ep) ∧ u.cell? ⟨w.heap.size, 1, none⟩ = some (.slice a0 m c0) ∧ u.cell? ⟨b, 2, none⟩ = some (.int .i64 sq) ∧ u.cell? ⟨b, 4, none⟩ = some (.int .i64 t) ∧ u.cell? ⟨b, 11, none⟩ = some (.int .i64 e0)) := fun u hu => by
    obtain ⟨a, kv, hb, -⟩ := H1.out.on hu
    obtain ⟨_, _, c2, _, c4, _, _, _, _, _, _, c11, _⟩ := QClB.cells hb
    have h := (hu.block _ (lt_of_block HQ.out)).trans HQ.out
    rw [ht, hsq, he0]
    exact ⟨by simp [World.cell?, h], by simp [World.cell?, h], c2, c4, c11⟩
  rw [← ht, ← hsq] at HFo
  have HN : (t = 0) ∨ (0 < t ∧ k ≠ (sq : Int)) ∨ (0 < t ∧ k = (sq : Int) ∧ M = false) ∨ (0 < t ∧ k = (sq : Int) ∧ M = true ∧ ep < e0) := by
    by_cases h : t = 0
    · exact .inl h
    by_cases h1 : k = (sq : Int)
    · by_cases h2 : ChainV.may ⟨ep, L⟩
      · refine .inr (.inr (.inr ⟨by omega, h1, hM.trans (decide_eq_true h2), ?_⟩))
        rcases Int.lt_or_le ep e0 with h3 | h3
        · exact h3
        · exact absurd ⟨HFo.out.2 ⟨by omega, h1⟩, h2, by rw [← he0]; exact h3⟩ hd
      · exact .inr (.inr (.inl ⟨by omega, h1, hM.trans (decide_eq_false h2)⟩))
    · exact .inr (.inl ⟨by omega, h1⟩)
  have HW := Lib.hid hW1
  clear H hb1 hq1 hI hI1 hd hM hW1 HFo ht hsq he0 hm
  rcases HN with h | ⟨h, h1⟩ | ⟨h, h1, h2⟩ | ⟨h, h1, h2, h3⟩
  · have g1 : decide ((0 : Int) < (t : Int)) = false := decide_eq_false (by omega)
    have g1' : ¬ (0 : Int) < (t : Int) := by omega
    have g1n : ¬ 0 < t := by omega
    clear h
    go_enter Try.func23, Try.ntmps23
    go_wp2_with fail
    rw [← HW.out]
    clear HW
    refine region_quiet (fun v => Below W1.heap.size W1 v) (by kernel_rfl) (by kernel_rfl) (Below.refl _ _).drew ?_
    repeat (first
      | go_big_quiet_skip
      | (go_big_quiet_want
         (first
          | (refine quiet_run (v := ?_) ?_ ?_; rotate_left; (intro u hu; obtain ⟨c0, c1, c2, c4, c11⟩ := FX.out u hu; go_simp <;> with_reducible rfl); simp only [Act.put, List.setIfInBounds_toArray, List.set_cons_zero, List.set_cons_succ]; go_big_quiet_on)
  )))
    refine wpQuiet_nil ?_
    intro w4 h4
    have C4 : Hid (Below w.heap.size w w4) := HB1.out.trans (h4.mono HB1.out.size)
    clear FX HM h4 H1 HQ HI
    go_wp2
    go_returns
    exact ⟨rfl, C4.out⟩
  · have g1' : (0 : Int) < (t : Int) := by omega
    have g2 : (k == (sq : Int)) = false := by simpa using h1
    clear h1
    go_enter Try.func23, Try.ntmps23
    go_wp2_with fail
    rw [← HW.out]
    clear HW
    refine region_quiet (fun v => Below W1.heap.size W1 v) (by kernel_rfl) (by kernel_rfl) (Below.refl _ _).drew ?_
    repeat (first
      | go_big_quiet_skip
      | (go_big_quiet_want
         (first
          | (refine quiet_run (v := ?_) ?_ ?_; rotate_left; (intro u hu; obtain ⟨c0, c1, c2, c4, c11⟩ := FX.out u hu; go_simp <;> with_reducible rfl); simp only [Act.put, List.setIfInBounds_toArray, List.set_cons_zero, List.set_cons_succ]; go_big_quiet_on)
  )))
    refine wpQuiet_nil ?_
    intro w4 h4
    have C4 : Hid (Below w.heap.size w w4) := HB1.out.trans (h4.mono HB1.out.size)
    clear FX HM h4 H1 HQ HI
    go_wp2
    go_returns
    exact ⟨rfl, C4.out⟩
  · have g1' : (0 : Int) < (t : Int) := by omega
    have g2 : (k == (sq : Int)) = true := by simpa using h1
    clear h1
    subst h2
    go_enter Try.func23, Try.ntmps23
    go_wp2_with fail
    rw [← HW.out]
    clear HW
    refine region_quiet (fun v => Below W1.heap.size W1 v) (by kernel_rfl) (by kernel_rfl) (Below.refl _ _).drew ?_
    repeat (first
      | go_big_quiet_skip
      | (go_big_quiet_want
         (first
          | (refine quiet_run (v := ?_) ?_ ?_; rotate_left; (intro u hu; obtain ⟨c0, c1, c2, c4, c11⟩ := FX.out u hu; go_simp <;> with_reducible rfl); simp only [Act.put, List.setIfInBounds_toArray, List.set_cons_zero, List.set_cons_succ]; go_big_quiet_on)
          | (refine quiet_enter 14 _ ?_ (fun u hu => (HM.out u hu).mono fun e u' ⟨he, hb⟩ => ⟨he, hu.trans (hb.mono hu.size)⟩) ?_; (focus (intro u; first | (go_simp; done) | (go_simp; with_reducible rfl))); simp only [Act.put, List.setIfInBounds_toArray, List.set_cons_zero, List.set_cons_succ]; go_big_quiet_on))))
    refine wpQuiet_nil ?_
    intro w4 h4
    have C4 : Hid (Below w.heap.size w w4) := HB1.out.trans (h4.mono HB1.out.size)
    clear FX HM h4 H1 HQ HI
    go_wp2
    go_returns
    exact ⟨rfl, C4.out⟩
  · have g1' : (0 : Int) < (t : Int) := by omega
    have g2 : (k == (sq : Int)) = true := by simpa using h1
    have g3 : ¬ e0 ≤ ep := by omega
    clear h1
    subst h2
    go_enter Try.func23, Try.ntmps23
    go_wp2_with fail
    rw [← HW.out]
    clear HW
    refine region_quiet (fun v => Below W1.heap.size W1 v) (by kernel_rfl) (by kernel_rfl) (Below.refl _ _).drew ?_
    repeat (first
      | go_big_quiet_skip
      | (go_big_quiet_want
         (first
          | (refine quiet_run (v := ?_) ?_ ?_; rotate_left; (intro u hu; obtain ⟨c0, c1, c2, c4, c11⟩ := FX.out u hu; go_simp <;> with_reducible rfl); simp only [Act.put, List.setIfInBounds_toArray, List.set_cons_zero, List.set_cons_succ]; go_big_quiet_on)
          | (refine quiet_enter 14 _ ?_ (fun u hu => (HM.out u hu).mono fun e u' ⟨he, hb⟩ => ⟨he, hu.trans (hb.mono hu.size)⟩) ?_; (focus (intro u; first | (go_simp; done) | (go_simp; with_reducible rfl))); simp only [Act.put, List.setIfInBounds_toArray, List.set_cons_zero, List.set_cons_succ]; go_big_quiet_on))))
    refine wpQuiet_nil ?_
    intro w4 h4
    have C4 : Hid (Below w.heap.size w w4) := HB1.out.trans (h4.mono HB1.out.size)
    clear FX HM h4 H1 HQ HI
    go_wp2
    go_returns
    exact ⟨rfl, C4.out⟩

set_option maxRecDepth 100000 in
set_option maxHeartbeats 4000000 in
theorem qcltold_yes {w : World} {b : Nat} {s : CliV} (H : QClB w b s) (ok : s.ok) (k ep : Int) (v : Value) (L : List Int) (hI : Ints w w.heap.size v L) (hd : tellV s k ep L) :
    Calls Try.prog 23 #[.pointer (some ⟨b, 0, none⟩), .int .i64 k, .agg #[.int .i64 ep, v]] w fun e w' => e = .returned (.tuple #[]) ∧ QClB w' b (s.tell ep L) ∧ Only (· = b) w w' := by
  obtain ⟨a0, c0, rfl, _⟩ := id hI
  obtain ⟨m, hm⟩ : ∃ m, m = L.length := ⟨_, rfl⟩
  rw [← hm] at hI ⊢
  have hb1 : Below w.heap.size w (w.alloc (.cells #[.int .i64 ep, .slice a0 m c0] 24)) := (Below.refl _ w).alloc (Nat.le_refl _) _
  obtain ⟨W1, hW1⟩ : ∃ W1, W1 = w.alloc (.cells #[.int .i64 ep, .slice a0 m c0] 24) := ⟨_, rfl⟩
  have hq1 : W1.heap[w.heap.size]? = some (.cells #[.int .i64 ep, .slice a0 m c0] 24 (0, 0)) := by rw [hW1]; exact heap_alloc_new w _
  rw [← hW1] at hb1
  have HB1 := Lib.hid hb1
  have H1 := Lib.hid (H.on hb1)
  have HQ := Lib.hid hq1
  have hI1 : Ints W1 W1.heap.size (.slice a0 m c0) L := (hI.keep hb1).mono hb1.size
  have HI := Lib.hid hI1
  have HLT := Lib.hid H.lt
  have HFo : Hid (forV s k ↔ 0 < s.tries ∧ k = (s.seq : Int)) := by
    unfold forV
    exact ⟨fun h => ⟨h.1, by rw [← (ok.qm h.1).2.2]; exact h.2.symm⟩, fun h => ⟨h.1, by rw [(ok.qm h.1).2.2]; exact h.2.symm⟩⟩
  obtain ⟨M, hM⟩ : ∃ M, M = decide (ChainV.may ⟨ep, L⟩) := ⟨_, rfl⟩
  obtain ⟨t, ht⟩ : ∃ t, t = s.tries := ⟨_, rfl⟩
  obtain ⟨sq, hsq⟩ : ∃ n, n = s.seq := ⟨_, rfl⟩
  obtain ⟨e0, he0⟩ : ∃ n, n = s.ep := ⟨_, rfl⟩
  have HM : Hid (∀ u, Below W1.heap.size W1 u → Calls Try.prog 14 #[.agg #[.int .i64 ep, .slice a0 m c0]] u fun e w' => e = .returned (.bool M) ∧ Below u.heap.size u w') := fun u hu => refmaychain_r ep _ L W1.heap.size u (HI.out.keep hu) hu.size M hM
  have FX : Hid (∀ u, Below W1.heap.size W1 u → u.cell? ⟨w.heap.size, 0, none⟩ = some (.int .i64 ep) ∧ u.cell? ⟨w.heap.size, 1, none⟩ = some (.slice a0 m c0) ∧ u.cell? ⟨b, 2, none⟩ = some (.int .i64 sq) ∧ u.cell? ⟨b, 4, none⟩ = some (.int .i64 t) ∧ u.cell? ⟨b, 11, none⟩ = some (.int .i64 e0)) := fun u hu => by
    obtain ⟨a, kv, hb, -⟩ := H1.out.on hu
    obtain ⟨_, _, c2, _, c4, _, _, _, _, _, _, c11, _⟩ := QClB.cells hb
    have h := (hu.block _ (lt_of_block HQ.out)).trans HQ.out
    rw [ht, hsq, he0]
    exact ⟨by simp [World.cell?, h], by simp [World.cell?, h], c2, c4, c11⟩
  rw [← ht, ← hsq] at HFo
  obtain ⟨d1, d2, d3⟩ := hd
  have hlen : m ≤ 5 := by rw [hm]; exact d2.2.2.2.1
  have hf := HFo.out.1 d1
  have g1' : (0 : Int) < (t : Int) := by have := hf.1; omega
  have g1n : 0 < t := hf.1
  have g2 : (k == (sq : Int)) = true := by have := hf.2; simpa using this
  obtain rfl : M = true := hM.trans (decide_eq_true d2)
  have g3 : e0 ≤ ep := by rw [he0]; exact d3
  have HW := Lib.hid hW1
  have HMl := Lib.hid hm
  clear H hb1 hq1 hI hI1 hM hW1 d1 d2 d3 hf HFo ht hsq he0 hm
  have HFX2 := Lib.hid FX.out
  go_enter Try.func23, Try.ntmps23
  go_wp2_with fail
  rw [← HW.out]
  clear HW
  refine region_quiet (fun v => Below W1.heap.size W1 v) (by kernel_rfl) (by kernel_rfl) (Below.refl _ _).drew ?_
  repeat (first
    | go_big_quiet_skip
    | (go_big_quiet_want
       (first
        | (refine quiet_run (v := ?_) ?_ ?_; rotate_left; (intro u hu; obtain ⟨c0, c1, c2, c4, c11⟩ := FX.out u hu; go_simp <;> with_reducible rfl); simp only [Act.put, List.setIfInBounds_toArray, List.set_cons_zero, List.set_cons_succ]; go_big_quiet_on)
        | (refine quiet_enter 14 _ ?_ (fun u hu => (HM.out u hu).mono fun e u' ⟨he, hb⟩ => ⟨he, hu.trans (hb.mono hu.size)⟩) ?_; (focus (intro u; first | (go_simp; done) | (go_simp; with_reducible rfl))); simp only [Act.put, List.setIfInBounds_toArray, List.set_cons_zero, List.set_cons_succ]; go_big_quiet_on))))
  refine wpQuiet_nil ?_
  intro w4 h4
  have O4 := Lib.hid h4
  clear FX HM h4
  go_wp2_with fail
  obtain ⟨i0, hi, hz0, hz1, hz2⟩ := info_parts pinfo_int
  have HMADE : Hid ((w4.alloc (.cells #[] 3)).drew.ownsRow w4.heap.size 3 1 (.slice (some ⟨w4.heap.size, 0, none⟩) 0 0) 0 []) := (World.ownsRow_made w4 #[] 0 (Nat.le_refl _) (Nat.zero_le _) rfl).kept (row := none) ⟨rfl, rfl, rfl, Nat.le_refl _, fun _ _ _ => rfl⟩ (.inr (by simp [Value.ownBlock]))
  have HSRC : Hid (Src Try.prog 1 22 (.slice a0 m c0) m (intCells L) (w4.alloc (.cells #[] 3)).drew) := by have h := pcsrc (HI.out.keep (O4.out.trans ((Below.drew ((Below.refl _ _).alloc (Nat.le_refl _) (.cells #[] 3))).mono O4.out.size))); rwa [← HMl.out] at h
  have HS : Hid (∀ u, Below w4.heap.size w4 u → (fun u => u.cell? ⟨w.heap.size, 0, none⟩ = some (.int .i64 ep) ∧ u.cell? ⟨w.heap.size, 1, none⟩ = some (.slice a0 m c0)) u) := fun u hu => ⟨(HFX2.out u (O4.out.trans (hu.mono O4.out.size))).1, (HFX2.out u (O4.out.trans (hu.mono O4.out.size))).2.1⟩
  refine wp_region_held_drew (S := (fun u => u.cell? ⟨w.heap.size, 0, none⟩ = some (.int .i64 ep) ∧ u.cell? ⟨w.heap.size, 1, none⟩ = some (.slice a0 m c0))) (by kernel_rfl) (HS.out _ (Below.drew (Below.refl _ _))) (fun hHeld => ?_)
  first
    | (refine held_take 0 33 (v := ?_) rfl rfl (by kernel_rfl) (by kernel_rfl) (by kernel_rfl) (fun _ _ _ h => h) (by assumption) (by rfl) ?_ ?_; rotate_left; (focus (intro w hSw; obtain ⟨hS0, hS1⟩ := hSw; go_simp <;> with_reducible rfl)))
    | refine held_pass 0 33 rfl rfl (by kernel_rfl) (by kernel_rfl) (by kernel_rfl) (fun _ _ _ h => h) (by assumption) (by rfl) ?_
  simp only [Act.put, List.setIfInBounds_toArray, List.set_cons_zero, List.set_cons_succ]
  first
    | (refine held_take 1 34 (v := ?_) rfl rfl (by kernel_rfl) (by kernel_rfl) (by kernel_rfl) (fun _ _ _ h => h) (by assumption) (by rfl) ?_ ?_; rotate_left; (focus (intro w hSw; obtain ⟨hS0, hS1⟩ := hSw; go_simp <;> with_reducible rfl)))
    | refine held_pass 1 34 rfl rfl (by kernel_rfl) (by kernel_rfl) (by kernel_rfl) (fun _ _ _ h => h) (by assumption) (by rfl) ?_
  simp only [Act.put, List.setIfInBounds_toArray, List.set_cons_zero, List.set_cons_succ]
  first
    | (refine held_take 2 35 (v := ?_) rfl rfl (by kernel_rfl) (by kernel_rfl) (by kernel_rfl) (fun _ _ _ h => h) (by assumption) (by rfl) ?_ ?_; rotate_left; (focus (intro w hSw; obtain ⟨hS0, hS1⟩ := hSw; go_simp <;> with_reducible rfl)))
    | refine held_pass 2 35 rfl rfl (by kernel_rfl) (by kernel_rfl) (by kernel_rfl) (fun _ _ _ h => h) (by assumption) (by rfl) ?_
  simp only [Act.put, List.setIfInBounds_toArray, List.set_cons_zero, List.set_cons_succ]
  first
    | (refine held_take 4 37 (v := ?_) rfl rfl (by kernel_rfl) (by kernel_rfl) (by kernel_rfl) (fun _ _ _ h => h) (by assumption) (by rfl) ?_ ?_; rotate_left; (focus (intro w hSw; obtain ⟨hS0, hS1⟩ := hSw; go_simp <;> with_reducible rfl)))
    | refine held_pass 4 37 rfl rfl (by kernel_rfl) (by kernel_rfl) (by kernel_rfl) (fun _ _ _ h => h) (by assumption) (by rfl) ?_
  simp only [Act.put, List.setIfInBounds_toArray, List.set_cons_zero, List.set_cons_succ]
  first
    | (refine held_take 5 38 (v := ?_) rfl rfl (by kernel_rfl) (by kernel_rfl) (by kernel_rfl) (fun _ _ _ h => h) (by assumption) (by rfl) ?_ ?_; rotate_left; (focus (intro w hSw; obtain ⟨hS0, hS1⟩ := hSw; go_simp <;> with_reducible rfl)))
    | refine held_pass 5 38 rfl rfl (by kernel_rfl) (by kernel_rfl) (by kernel_rfl) (fun _ _ _ h => h) (by assumption) (by rfl) ?_
  simp only [Act.put, List.setIfInBounds_toArray, List.set_cons_zero, List.set_cons_succ]
  refine wpAnyH_ready (rs := [3]) (by kernel_rfl) (by simp) (AllReadyH.cons rfl (fun K hK => ?_) AllReadyH.nil)
  try simp only [Go.wp_at_succ, Go.wp_at_zero]
  go_simp
  refine hK.out _ _ (HS.out _ ?_) (fun hHeld => ?_)
  · go_grown
  clear hK K
  try simp only [Act.put, List.setIfInBounds_toArray, List.set_cons_zero, List.set_cons_succ]
  refine wpAnyH_ready (rs := [6]) (by kernel_rfl) (by simp) (AllReadyH.cons rfl (fun K hK => ?_) AllReadyH.nil)
  refine stepApp rfl (.tmp 36) (.tmp 38) 22 22 rfl w4.heap.size 3 i0 (.int .i64 0) 1 8 Try.underlying22 hi hz0 hz1 hz2 rfl _ _ _ rfl HMADE.out _ m (intCells L) rfl HSRC.out ?c3 ?c4 ?c5 ?_
  case c3 => unfold maxLen; omega
  case c4 => omega
  case c5 => simp
  intro v2 w2 O2 G2
  obtain ⟨a2, c2, rfl⟩ := own_shape O2
  have B2 : Below w4.heap.size w4 w2 := ((Below.drew ((Below.refl _ _).alloc (Nat.le_refl _) _))).grown G2 (by simp) (fun k hk => by cases hk; exact Nat.le_refl _)
  have HB2 := Lib.hid B2
  have O2x := Lib.hid (RowI.own (L := L) (by simpa using O2))
  clear O2 G2 B2
  refine hK.out _ _ (HS.out _ HB2.out) (fun hHeld => ?_)
  clear hK K
  try simp only [Act.put, List.setIfInBounds_toArray]
  first
    | (refine held_take 7 40 (v := ?_) rfl rfl (by kernel_rfl) (by kernel_rfl) (by kernel_rfl) (fun _ _ _ h => h) (by assumption) (by rfl) ?_ ?_; rotate_left; (focus (intro w hSw; obtain ⟨hS0, hS1⟩ := hSw; go_simp <;> with_reducible rfl)))
    | refine held_pass 7 40 rfl rfl (by kernel_rfl) (by kernel_rfl) (by kernel_rfl) (fun _ _ _ h => h) (by assumption) (by rfl) ?_
  simp only [Act.put]
  first
    | (refine held_take 8 41 (v := ?_) rfl rfl (by kernel_rfl) (by kernel_rfl) (by kernel_rfl) (fun _ _ _ h => h) (by assumption) (by rfl) ?_ ?_; rotate_left; (focus (intro w hSw; obtain ⟨hS0, hS1⟩ := hSw; go_simp <;> with_reducible rfl)))
    | refine held_pass 8 41 rfl rfl (by kernel_rfl) (by kernel_rfl) (by kernel_rfl) (fun _ _ _ h => h) (by assumption) (by rfl) ?_
  simp only [Act.put]
  first
    | (refine held_take 9 42 (v := ?_) rfl rfl (by kernel_rfl) (by kernel_rfl) (by kernel_rfl) (fun _ _ _ h => h) (by assumption) (by rfl) ?_ ?_; rotate_left; (focus (intro w hSw; obtain ⟨hS0, hS1⟩ := hSw; go_simp <;> with_reducible rfl)))
    | refine held_pass 9 42 rfl rfl (by kernel_rfl) (by kernel_rfl) (by kernel_rfl) (fun _ _ _ h => h) (by assumption) (by rfl) ?_
  simp only [Act.put]
  have O5 := Lib.hid (O4.out.trans (HB2.out.mono O4.out.size))
  have h5 := H1.out.on O5.out
  obtain ⟨a5, kv5, hb5, -⟩ := id h5
  obtain ⟨-, -, -, -, -, -, -, -, -, -, -, y11, y12⟩ := QClB.cells hb5
  have z11 := QClB.free hb5 11
  have z12 := QClB.free hb5 12
  obtain ⟨b7, o7⟩ := h5.tell ep (.slice a2 m c2) L (by simpa using O2x.out)
  have B7 := Lib.hid b7
  have O7x := Lib.hid o7
  have hne : w.heap.size ≠ b := by have := HLT.out; omega
  have hq := (O5.out.block _ (lt_of_block HQ.out)).trans HQ.out
  have KS : Hid ((fun u => u.cell? ⟨w.heap.size, 0, none⟩ = some (.int .i64 ep) ∧ u.cell? ⟨w.heap.size, 1, none⟩ = some (.slice a0 m c0)) ((w2.setCell ⟨b, 11, none⟩ (.int .i64 ep)).setCell ⟨b, 12, none⟩ (.slice a2 m c2))) := ⟨(o7.cell (p := ⟨w.heap.size, 0, none⟩) (lt_of_block hq) hne).trans (by simp [World.cell?, hq]), (o7.cell (p := ⟨w.heap.size, 1, none⟩) (lt_of_block hq) hne).trans (by simp [World.cell?, hq])⟩
  clear b7 o7 h5 hb5 hq
  refine wpAnyH_ready (rs := [10]) (by kernel_rfl) (by simp) (AllReadyH.cons rfl (fun K hK => ?_) AllReadyH.nil)
  try simp only [Go.wp_at_succ, Go.wp_at_zero]
  go_simp
  refine hK.out _ _ ?_ (fun hHeld => ?_)
  · exact KS.out
  clear hK K
  try simp only [Act.put, List.setIfInBounds_toArray, List.set_cons_zero, List.set_cons_succ]
  refine wpAnyH_done (by kernel_rfl) ?_ _
  have O7 : Hid (Only (· = b) w ((w2.setCell ⟨b, 11, none⟩ (.int .i64 ep)).setCell ⟨b, 12, none⟩ (.slice a2 m c2))) := ((Only.of (S := (· = b)) HB1.out).trans (Only.of (O5.out.mono (Nat.le_refl _)))).trans O7x.out
  go_wp2
  go_returns
  exact ⟨rfl, B7.out, O7.out⟩
end Go.Proofs.Ytpcbpimlakehcaa
