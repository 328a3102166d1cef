/-
  THE REFERENCE'S CLIENT: Tick, Told, Ask, by contract. No condition but that its numbers are such as a client has.
-/
import Derived.Test.YtpcbpimlakehcaaClQT
import Derived.BigRegion
namespace Go.Proofs.Ytpcbpimlakehcaa
open Go.RowKit

theorem qset_try (s : CliV) (a : Int) (kv : Value) (now : Int) : ((qclCells s a kv).setIfInBounds 4 (.int .i64 ((s.tries + 1 : Nat) : Int))).setIfInBounds 3 (.int .i64 now) = qclCells (s.tryAt now) now kv := by simp [qclCells, CliV.tryAt]
theorem QClB.tries {w : World} {b : Nat} {s : CliV} (H : QClB w b s) (now : Int) :
    QClB ((w.setCell ⟨b, 4, none⟩ (.int .i64 ((s.tries + 1 : Nat) : Int))).setCell ⟨b, 3, none⟩ (.int .i64 now)) b (s.tryAt now) ∧ Only (· = b) w ((w.setCell ⟨b, 4, none⟩ (.int .i64 ((s.tries + 1 : Nat) : Int))).setCell ⟨b, 3, none⟩ (.int .i64 now)) := by
  obtain ⟨a, kv, h, hr, -⟩ := H
  have ho := (Only.set b 4 w (.int .i64 ((s.tries + 1 : Nat) : Int))).trans (Only.set b 3 _ (.int .i64 now))
  have e : ((w.setCell ⟨b, 4, none⟩ (.int .i64 ((s.tries + 1 : Nat) : Int))).setCell ⟨b, 3, none⟩ (.int .i64 now)).heap[b]? = some (.cells (((qclCells s a kv).setIfInBounds 4 (.int .i64 ((s.tries + 1 : Nat) : Int))).setIfInBounds 3 (.int .i64 now)) 42 (0, 0)) := by rw [heap_setCell_same _ _ _ _ _ _ (heap_setCell_same _ _ _ _ _ _ h)]
  rw [qset_try s a kv now] at e
  exact ⟨⟨now, kv, e, hr.beside h qcli_ty ho, fun _ => rfl⟩, ho⟩

set_option maxRecDepth 100000 in
set_option maxHeartbeats 2000000 in
theorem qcltick_no {w : World} {b : Nat} {s : CliV} (H : QClB w b s) (ok : s.ok) (now : Int) (hw : now ≤ 9223372036854775807) (hd : ¬ dueV s now) :
    Calls Try.prog 22 #[.pointer (some ⟨b, 0, none⟩), .int .i64 now] w fun e w' => e = .returned (.tuple #[.int .i64 (-1), .bool false]) ∧ Below w.heap.size w w' := by
  obtain ⟨a, kv, hb, hr, ha⟩ := id H
  obtain ⟨D, hD⟩ : ∃ D, decide (s.asked ≤ now ∧ waitV (s.tries : Int) ≤ now - s.asked) = D := ⟨_, rfl⟩
  have HU : Hid (0 < s.tries → ∀ u, Calls Try.prog 62 #[.int .i64 now, .int .i64 a, .int .i64 s.tries] u fun e w' => e = .returned (.bool D) ∧ Below u.heap.size u w') := fun h u => by
    rw [ha h]
    exact (qdue_any now s.asked s.tries u ok.as0 hw D hD).mono fun _ _ ⟨he, hw⟩ => ⟨he, hw ▸ Below.refl _ u⟩
  have FX : Hid (∀ u, Below w.heap.size w u → u.cell? ⟨b, 3, none⟩ = some (.int .i64 a) ∧ u.cell? ⟨b, 4, none⟩ = some (.int .i64 s.tries)) := fun u hu => by
    obtain ⟨_, _, _, c3, c4, _⟩ := QClB.cells ((hu.block b (lt_of_block hb)).trans hb)
    exact ⟨c3, c4⟩
  by_cases ht : s.tries = 0
  · have e0 : ((s.tries : Int) == 0) = true := by rw [ht]; rfl
    clear H hb hr ha hD hd hw
    generalize s.tries = t at e0 FX HU
    clear ht
    go_enter Try.func22, Try.ntmps22
    go_wp2_with fail
    refine region_quiet (fun v => Below w.heap.size w v) (by kernel_rfl) (by kernel_rfl) (Below.refl _ _).drew ?_
    repeat (first
      | go_big_quiet_skip
      | (go_big_quiet_want
         (first
          | (refine quiet_run (v := ?_) ?_ ?_; rotate_left; (intro u hu; obtain ⟨c3, c4⟩ := FX.out u hu; go_simp <;> with_reducible rfl); simp only [Act.put, List.setIfInBounds_toArray, List.set_cons_zero, List.set_cons_succ]; go_big_quiet_on)
  )))
    refine wpQuiet_nil ?_
    intro w4 h4
    have C4 : Hid (Below w.heap.size w w4) := h4
    clear FX HU h4
    go_wp2
    go_returns
    exact ⟨rfl, C4.out⟩
  · have e0 : ((s.tries : Int) == 0) = false := by simpa using ht
    obtain rfl : D = false := hD.symm.trans (decide_eq_false fun h => hd ⟨by omega, h⟩)
    have HU2 := Lib.hid (HU.out (by omega))
    clear H hb hr ha hD hd hw
    generalize s.tries = t at e0 FX HU2 HU
    clear HU
    go_enter Try.func22, Try.ntmps22
    go_wp2_with fail
    refine region_quiet (fun v => Below w.heap.size w v) (by kernel_rfl) (by kernel_rfl) (Below.refl _ _).drew ?_
    repeat (first
      | go_big_quiet_skip
      | (go_big_quiet_want
         (first
          | (refine quiet_run (v := ?_) ?_ ?_; rotate_left; (intro u hu; obtain ⟨c3, c4⟩ := FX.out u hu; go_simp <;> with_reducible rfl); simp only [Act.put, List.setIfInBounds_toArray, List.set_cons_zero, List.set_cons_succ]; go_big_quiet_on)
          | (refine quiet_enter 62 _ ?_ (fun u hu => (HU2.out u).mono fun e u' ⟨he, hb⟩ => ⟨he, hu.trans (hb.mono hu.size)⟩) ?_; (focus (intro u; first | (go_simp; done) | (go_simp; with_reducible rfl))); simp only [Act.put, List.setIfInBounds_toArray, List.set_cons_zero, List.set_cons_succ]; go_big_quiet_on))))
    refine wpQuiet_nil ?_
    intro w4 h4
    have C4 : Hid (Below w.heap.size w w4) := h4
    clear FX HU2 h4
    go_wp2
    go_returns
    exact ⟨rfl, C4.out⟩

set_option maxRecDepth 100000 in
set_option maxHeartbeats 2000000 in
theorem qcltick_yes {w : World} {b : Nat} {s : CliV} (H : QClB w b s) (ok : s.ok) (now : Int) (hw : now ≤ 9223372036854775807) (hd : dueV s now) (ht : s.tries ≤ 99999) :
    Calls Try.prog 22 #[.pointer (some ⟨b, 0, none⟩), .int .i64 now] w fun e w' => e = .returned (.tuple #[.int .i64 (targV s.L s.n (s.tries + 1) (wrQ s.q)), .bool true]) ∧ QClB w' b (s.tryAt now) ∧ Only (· = b) w w' := by
  obtain ⟨a, kv, hb, hr, ha⟩ := id H
  obtain ⟨D, hD⟩ : ∃ D, decide (s.asked ≤ now ∧ waitV (s.tries : Int) ≤ now - s.asked) = D := ⟨_, rfl⟩
  have HU : Hid (0 < s.tries → ∀ u, Calls Try.prog 62 #[.int .i64 now, .int .i64 a, .int .i64 s.tries] u fun e w' => e = .returned (.bool D) ∧ Below u.heap.size u w') := fun h u => by
    rw [ha h]
    exact (qdue_any now s.asked s.tries u ok.as0 hw D hD).mono fun _ _ ⟨he, hw⟩ => ⟨he, hw ▸ Below.refl _ u⟩
  have FX : Hid (∀ u, Below w.heap.size w u → u.cell? ⟨b, 3, none⟩ = some (.int .i64 a) ∧ u.cell? ⟨b, 4, none⟩ = some (.int .i64 s.tries)) := fun u hu => by
    obtain ⟨_, _, _, c3, c4, _⟩ := QClB.cells ((hu.block b (lt_of_block hb)).trans hb)
    exact ⟨c3, c4⟩
  obtain rfl : D = true := hD.symm.trans (decide_eq_true hd.2)
  have e0 : ((s.tries : Int) == 0) = false := by
    have := hd.1
    rw [beq_eq_false_iff_ne]
    omega
  have HU2 := Lib.hid (HU.out hd.1)
  have hn1 := ok.n1
  have hn5 := ok.n5
  clear HU hD hd hw ha
  obtain ⟨m, hm⟩ : ∃ m, m = s.tries + 1 := ⟨_, rfl⟩
  have HM : Hid (((s.tries : Int) + 1) = ((m : Nat) : Int)) := by show _ = _; rw [hm]; rfl
  have hm2 : s.tries ≤ 99999 := ht
  have HTT : Hid (∀ u, RowI u kv s.L → Calls Try.prog 60 #[.agg #[.int .i64 s.ep, kv], .int .i64 s.n, .int .i64 (m : Int), .bool (wrQ s.q)] u fun e w' => e = .returned (.int .i64 (targV s.L s.n (s.tries + 1) (wrQ s.q))) ∧ Below u.heap.size u w') := fun u hu => by
    rw [hm]
    exact qtarget_r _ _ _ _ _ _ u hu.ints hn1 (by omega) (by omega) (by omega)
  have HWr : Hid (∀ u, Calls Try.prog 61 #[.agg #[.int .i64 s.q.client, .int .i64 s.q.seq, .int .i64 s.q.kind, .int .i64 s.q.id, .int .i64 s.q.mtch, .string s.q.data]] u fun e w' => e = .returned (.bool (wrQ s.q)) ∧ Below u.heap.size u w') := fun u => refwrites_r _ _ _ _ _ _ (wrQ s.q) rfl u
  have HS := Lib.hid H
  have HB0 : Hid (∀ u, Below w.heap.size w u → QClB u b s) := fun u hu => H.on hu
  have HK : Hid (∀ u, Below w.heap.size w u → u.heap[b]? = some (.cells (qclCells s a kv) 42 (0, 0)) ∧ RowI u kv s.L) := fun u hu => ⟨(hu.block b (lt_of_block hb)).trans hb, hr.on hu⟩
  generalize targV s.L s.n (s.tries + 1) (wrQ s.q) = T at HTT ⊢
  clear H hb hr ht
  go_enter Try.func22, Try.ntmps22
  go_wp2_with fail
  refine region_quiet (fun v => Below w.heap.size w v) (by kernel_rfl) (by kernel_rfl) (Below.refl _ _).drew ?_
  repeat (first
    | go_big_quiet_skip
    | (go_big_quiet_want
       (first
        | (refine quiet_run (v := ?_) ?_ ?_; rotate_left; (intro u hu; obtain ⟨c3, c4⟩ := FX.out u hu; go_simp <;> with_reducible rfl); simp only [Act.put, List.setIfInBounds_toArray, List.set_cons_zero, List.set_cons_succ]; go_big_quiet_on)
        | (refine quiet_enter 62 _ ?_ (fun u hu => (HU2.out u).mono fun e u' ⟨he, hb⟩ => ⟨he, hu.trans (hb.mono hu.size)⟩) ?_; (focus (intro u; first | (go_simp; done) | (go_simp; with_reducible rfl))); simp only [Act.put, List.setIfInBounds_toArray, List.set_cons_zero, List.set_cons_succ]; go_big_quiet_on))))
  refine wpQuiet_nil ?_
  intro w4 h4
  have O4 := Lib.hid h4
  obtain ⟨k4, r4⟩ := HK.out w4 h4
  obtain ⟨-, -, -, a3, a4, -⟩ := QClB.cells k4
  have f3 := QClB.free k4 3
  have f4 := QClB.free k4 4
  obtain ⟨b5, o5⟩ := (HB0.out w4 h4).tries now
  rw [← hm] at b5 o5
  have e5 : ((w4.setCell ⟨b, 4, none⟩ (.int .i64 (m : Int))).setCell ⟨b, 3, none⟩ (.int .i64 now)).heap[b]? = some (.cells (qclCells (s.tryAt now) now kv) 42 (0, 0)) := by
    rw [heap_setCell_same _ _ _ _ _ _ (heap_setCell_same _ _ _ _ _ _ k4), hm, qset_try s a kv now]
  have r5 : RowI ((w4.setCell ⟨b, 4, none⟩ (.int .i64 (m : Int))).setCell ⟨b, 3, none⟩ (.int .i64 now)) kv s.L := r4.beside k4 qcli_ty o5
  obtain ⟨W2, hW2⟩ : ∃ W2, W2 = (w4.setCell ⟨b, 4, none⟩ (.int .i64 (m : Int))).setCell ⟨b, 3, none⟩ (.int .i64 now) := ⟨_, rfl⟩
  rw [← hW2] at b5 o5 e5 r5
  have HW2 := Lib.hid hW2
  have B5 := Lib.hid b5
  have O5 : Hid (Only (· = b) w W2) := (Only.of (S := (· = b)) h4).trans o5
  have HX : Hid (∀ u, Below W2.heap.size W2 u → u.heap[b]? = some (.cells (qclCells (s.tryAt now) now kv) 42 (0, 0)) ∧ RowI u kv s.L) := fun u hu => ⟨(hu.block b (lt_of_block e5)).trans e5, r5.on hu⟩
  have HM2 := Lib.hid hm
  have FX2 : Hid (∀ u, Below W2.heap.size W2 u → u.cell? ⟨b, 1, none⟩ = some (.int .i64 s.n) ∧ u.cell? ⟨b, 4, none⟩ = some (.int .i64 (m : Int)) ∧
      u.cell? ⟨b, 5, none⟩ = some (.int .i64 s.q.client) ∧ u.cell? ⟨b, 6, none⟩ = some (.int .i64 s.q.seq) ∧ u.cell? ⟨b, 7, none⟩ = some (.int .i64 s.q.kind) ∧ u.cell? ⟨b, 8, none⟩ = some (.int .i64 s.q.id) ∧ u.cell? ⟨b, 9, none⟩ = some (.int .i64 s.q.mtch) ∧ u.cell? ⟨b, 10, none⟩ = some (.string s.q.data) ∧
      u.cell? ⟨b, 11, none⟩ = some (.int .i64 s.ep) ∧ u.cell? ⟨b, 12, none⟩ = some kv) := fun u hu => by
    obtain ⟨_, c1, _, _, c4, c5, c6, c7, c8, c9, c10, c11, c12⟩ := QClB.cells (HX.out u hu).1
    rw [HM2.out]
    exact ⟨c1, c4, c5, c6, c7, c8, c9, c10, c11, c12⟩
  clear FX HU2 HK HB0 HS h4 k4 r4 b5 o5 e5 r5 hW2 hm
  go_wp2_with fail
  rw [HM.out, ← HW2.out]
  clear HW2 HM a3 a4 f3 f4
  refine region_quiet (fun v => Below W2.heap.size W2 v) (by kernel_rfl) (by kernel_rfl) (Below.refl _ _).drew ?_
  repeat (first
    | go_big_quiet_skip
    | (go_big_quiet_want
       (first
        | (refine quiet_run (v := ?_) ?_ ?_; rotate_left; (intro u hu; obtain ⟨c1, c4, c5, c6, c7, c8, c9, c10, c11, c12⟩ := FX2.out u hu; go_simp <;> with_reducible rfl); simp only [Act.put, List.setIfInBounds_toArray, List.set_cons_zero, List.set_cons_succ]; go_big_quiet_on)
        | (refine quiet_enter 61 _ ?_ (fun u hu => (HWr.out u).mono fun e u' ⟨he, hb⟩ => ⟨he, hu.trans (hb.mono hu.size)⟩) ?_; (focus (intro u; first | (go_simp; done) | (go_simp; with_reducible rfl))); simp only [Act.put, List.setIfInBounds_toArray, List.set_cons_zero, List.set_cons_succ]; go_big_quiet_on)
        | (refine quiet_enter 60 _ ?_ (fun u hu => (HTT.out u (HX.out u hu).2).mono fun e u' ⟨he, hb⟩ => ⟨he, hu.trans (hb.mono hu.size)⟩) ?_; (focus (intro u; first | (go_simp; done) | (go_simp; with_reducible rfl))); simp only [Act.put, List.setIfInBounds_toArray, List.set_cons_zero, List.set_cons_succ]; go_big_quiet_on))))
  refine wpQuiet_nil ?_
  intro w6 h6
  have C6 : Hid (QClB w6 b (s.tryAt now)) := B5.out.on h6
  have O6 : Hid (Only (· = b) w w6) := O5.out.then (.of (S := fun _ => False) h6) (fun _ _ h => h.elim)
  clear FX2 HX h6
  go_wp2
  go_returns
  exact ⟨rfl, C6.out, O6.out⟩
end Go.Proofs.Ytpcbpimlakehcaa
