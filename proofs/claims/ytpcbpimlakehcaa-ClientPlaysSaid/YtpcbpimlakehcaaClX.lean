/-
  A CLIENT's try and Tick, by contract. No condition but that its numbers are such as a client has.
-/
import Derived.Test.YtpcbpimlakehcaaClW
import Derived.Test.YtpcbpimlakehcaaReT
namespace Go.Proofs.Ytpcbpimlakehcaa
open Go.RowKit

/-- Whom to ask at the try t of n, with the nodes L known. -/
def targV (L : List Int) (n t : Nat) (wr : Bool) : Int := if (1 ≤ t ∧ t ≤ 2) ∧ mayAskV L n then (if wr = true then L.getD 0 0 else L.getD (t % L.length) 0) else ((t % n : Nat) : Int)
theorem retarget_any (ep : Int) (v : Value) (L : List Int) (n t : Nat) (wr : Bool) (w : World) (hI : Ints w w.heap.size v L) (hn1 : 1 ≤ n) (hn2 : n ≤ 1000) (ht : 1 ≤ t) (ht2 : t ≤ 100000) :
    Calls Try.prog 78 #[.agg #[.int .i64 ep, v], .int .i64 n, .int .i64 t, .bool wr] w fun e w' => e = .returned (.int .i64 (targV L n t wr)) ∧ Below w.heap.size w w' := by
  obtain ⟨a, c, rfl, _⟩ := id hI
  unfold targV
  by_cases h3 : 3 ≤ t
  · rw [if_neg (by omega)]
    exact retarget_far ep a _ c n t wr w hn1 hn2 h3 ht2
  by_cases hM : mayAskV L n
  · rw [if_pos ⟨by omega, hM⟩]
    cases wr
    · rw [if_neg (by decide)]
      exact retarget_read ep a _ c L n t w rfl hI hn1 hn2 ht (by omega) hM
    · rw [if_pos rfl]
      exact retarget_head ep a _ c L n t w rfl hI hn1 hn2 ht (by omega) hM
  · rw [if_neg (fun h => hM h.2)]
    exact retarget_two ep a _ c L n t wr w rfl hI hn1 hn2 ht (by omega) hM

set_option maxHeartbeats 400000 in
theorem redue_any (now asked t : Int) (w : World) (h0 : 0 ≤ asked) (hw : now ≤ 9223372036854775807) (R : Bool) (hR : Hid (decide (asked ≤ now ∧ waitV t ≤ now - asked) = R)) :
    Calls Try.prog 59 #[.int .i64 now, .int .i64 asked, .int .i64 t] w fun e w' => e = .returned (.bool R) ∧ Below w.heap.size w w' := by
  by_cases h1 : asked ≤ now
  · obtain ⟨M, hM⟩ : ∃ M, waitV t = M := ⟨_, rfl⟩
    have HW := Lib.hid (rewait_r t w M hM)
    have HD : Hid (wrap64 (now - asked) = now - asked) := by show _ = _; exact IntWalk.wrap64_in _ (by omega)
    have HR : Hid (decide (M ≤ now - asked) = R) := by
      show _ = _
      rw [← hR.out, ← hM]
      exact decide_eq_decide.2 ⟨fun h => ⟨h1, h⟩, fun h => h.2⟩
    clear hM hR hw
    go_enter Try.func59, Try.ntmps59
    go_wp2_with fail
    with_reducible refine HW.out.mono ?_
    rintro e w1 ⟨rfl, B1⟩
    have HB := Lib.hid B1
    clear B1
    go_wp2
    go_returns
    exact ⟨ret_bool (by rw [← HR.out]; first | (rw [HD.out]; done) | (simp [HD.out]; done) | rfl), HB.out⟩
  · have HR : Hid (R = false) := hR.out.symm.trans (decide_eq_false fun h => h1 h.1)
    clear hR hw
    go_enter Try.func59, Try.ntmps59
    go_wp2
    go_returns
    exact ⟨ret_bool HR.out.symm, Below.refl _ _⟩

/-- One try more. -/
def CliV.tryAt (s : CliV) (now : Int) : CliV := { s with asked := now, tries := s.tries + 1 }
def wrQ (q : ReqV) : Bool := decide (1 ≤ q.kind ∧ q.kind ≤ 3)
theorem set_try (s : CliV) (kv : Value) (now : Int) : ((cliCells s kv).setIfInBounds 11 (.int .i64 now)).setIfInBounds 12 (.int .i64 ((s.tries + 1 : Nat) : Int)) = cliCells (s.tryAt now) kv := by simp [cliCells, CliV.tryAt]
theorem CliB.tries {w : World} {b : Nat} {s : CliV} (H : CliB w b s) (now : Int) :
    CliB ((w.setCell ⟨b, 11, none⟩ (.int .i64 now)).setCell ⟨b, 12, none⟩ (.int .i64 ((s.tries + 1 : Nat) : Int))) b (s.tryAt now) ∧ Only (· = b) w ((w.setCell ⟨b, 11, none⟩ (.int .i64 now)).setCell ⟨b, 12, none⟩ (.int .i64 ((s.tries + 1 : Nat) : Int))) := by
  obtain ⟨kv, h, hr⟩ := H
  have ho := (Only.set b 11 w (.int .i64 now)).trans (Only.set b 12 _ (.int .i64 ((s.tries + 1 : Nat) : Int)))
  have e : ((w.setCell ⟨b, 11, none⟩ (.int .i64 now)).setCell ⟨b, 12, none⟩ (.int .i64 ((s.tries + 1 : Nat) : Int))).heap[b]? = some (.cells (((cliCells s kv).setIfInBounds 11 (.int .i64 now)).setIfInBounds 12 (.int .i64 ((s.tries + 1 : Nat) : Int))) 91 (0, 0)) := by rw [heap_setCell_same _ _ _ _ _ _ (heap_setCell_same _ _ _ _ _ _ h)]
  rw [set_try s kv now] at e
  exact ⟨⟨kv, e, hr.beside h cli_ty ho⟩, ho⟩

set_option maxRecDepth 100000 in
set_option maxHeartbeats 2000000 in
theorem cltry_r {w : World} {b : Nat} {s : CliV} (H : CliB w b s) (now : Int) (hn1 : 1 ≤ s.n) (hn5 : s.n ≤ 5) (htr : s.tries ≤ 99999) :
    Calls Try.prog 55 #[.pointer (some ⟨b, 0, none⟩), .int .i64 now] w fun e w' => e = .returned (.int .i64 (targV s.L s.n (s.tries + 1) (wrQ s.q))) ∧ CliB w' b (s.tryAt now) ∧ Only (· = b) w w' := by
  obtain ⟨hB2, hO2⟩ := H.tries now
  obtain ⟨W2, hW2⟩ : ∃ W2, W2 = (w.setCell ⟨b, 11, none⟩ (.int .i64 now)).setCell ⟨b, 12, none⟩ (.int .i64 ((s.tries + 1 : Nat) : Int)) := ⟨_, rfl⟩
  rw [← hW2] at hB2 hO2
  have HB2 := Lib.hid hB2
  have HO2 := Lib.hid hO2
  obtain ⟨kv0, hb0, -⟩ := H
  obtain ⟨-, -, -, -, -, -, -, -, -, -, -, a11, a12⟩ := Cli.cells hb0
  have f11 := Cli.free hb0 11
  have f12 := Cli.free hb0 12
  obtain ⟨kv, hb2, hr2⟩ := hB2
  have HX : Hid (∀ u, Below W2.heap.size W2 u → u.heap[b]? = some (.cells (cliCells (s.tryAt now) kv) 91 (0, 0)) ∧ RowI u kv s.L) := fun u hu => ⟨(hu.block b (lt_of_block hb2)).trans hb2, hr2.on hu⟩
  have HT : Hid (∀ u, RowI u kv s.L → Calls Try.prog 78 #[.agg #[.int .i64 s.ep, kv], .int .i64 s.n, .int .i64 ((s.tries + 1 : Nat) : Int), .bool (wrQ s.q)] u fun e w' => e = .returned (.int .i64 (targV s.L s.n (s.tries + 1) (wrQ s.q))) ∧ Below u.heap.size u w') := fun u hu => retarget_any _ _ _ _ _ _ u hu.ints hn1 (by omega) (by omega) (by omega)
  have HWr : Hid (∀ u, Calls Try.prog 79 #[.agg #[.int .i64 s.q.client, .int .i64 s.q.seq, .int .i64 s.q.kind, .int .i64 s.q.id, .int .i64 s.q.mtch, .string s.q.data]] u fun e w' => e = .returned (.bool (wrQ s.q)) ∧ Below u.heap.size u w') := fun u => writes_any _ _ _ _ _ _ u
  have FX : Hid (∀ u, Below W2.heap.size W2 u → u.cell? ⟨b, 1, none⟩ = some (.int .i64 s.n) ∧ u.cell? ⟨b, 3, none⟩ = some (.int .i64 s.ep) ∧ u.cell? ⟨b, 4, none⟩ = some kv ∧
      u.cell? ⟨b, 5, none⟩ = some (.int .i64 s.q.client) ∧ u.cell? ⟨b, 6, none⟩ = some (.int .i64 s.q.seq) ∧ u.cell? ⟨b, 7, none⟩ = some (.int .i64 s.q.kind) ∧ u.cell? ⟨b, 8, none⟩ = some (.int .i64 s.q.id) ∧ u.cell? ⟨b, 9, none⟩ = some (.int .i64 s.q.mtch) ∧ u.cell? ⟨b, 10, none⟩ = some (.string s.q.data) ∧ u.cell? ⟨b, 12, none⟩ = some (.int .i64 ((s.tries + 1 : Nat) : Int))) := fun u hu => by
    obtain ⟨_, c1, _, c3, c4, c5, c6, c7, c8, c9, c10, _, c12⟩ := Cli.cells (HX.out u hu).1
    exact ⟨c1, c3, c4, c5, c6, c7, c8, c9, c10, c12⟩
  have HW := Lib.hid hW2
  obtain ⟨T, hT⟩ : ∃ T, targV s.L s.n (s.tries + 1) (wrQ s.q) = T := ⟨_, rfl⟩
  rw [hT] at HT ⊢
  clear hb0 hb2 hr2 hO2 hW2 hT
  obtain ⟨m, hm⟩ : ∃ m, m = s.tries + 1 := ⟨_, rfl⟩
  have HM : Hid (((s.tries : Int) + 1) = ((m : Nat) : Int)) := by show _ = _; rw [hm]; rfl
  rw [← hm] at HT FX HW
  have hm2 : m ≤ 100000 := by omega
  clear hm
  go_enter Try.func55, Try.ntmps55
  go_wp2_with fail
  rw [HM.out]
  rw [← HW.out]
  clear HW HM a11 a12 f11 f12
  refine region_quiet (fun v => Below W2.heap.size W2 v) (by kernel_rfl) (by kernel_rfl) (Below.refl _ _).drew ?_
  repeat (first
    | go_big_quiet_skip
    | (go_big_quiet_want
       (first
        | (refine quiet_run (v := ?_) ?_ ?_; rotate_left; (intro u hu; obtain ⟨c1, c3, c4, c5, c6, c7, c8, c9, c10, c12⟩ := FX.out u hu; go_simp <;> with_reducible rfl); simp only [Act.put, List.setIfInBounds_toArray, List.set_cons_zero, List.set_cons_succ]; go_big_quiet_on)
        | (refine quiet_enter 79 _ ?_ (fun u hu => (HWr.out u).mono fun e u' ⟨he, hb⟩ => ⟨he, hu.trans (hb.mono hu.size)⟩) ?_; (focus (intro u; first | (go_simp; done) | (go_simp; with_reducible rfl))); simp only [Act.put, List.setIfInBounds_toArray, List.set_cons_zero, List.set_cons_succ]; go_big_quiet_on)
        | (refine quiet_enter 78 _ ?_ (fun u hu => (HT.out u (HX.out u hu).2).mono fun e u' ⟨he, hb⟩ => ⟨he, hu.trans (hb.mono hu.size)⟩) ?_; (focus (intro u; first | (go_simp; done) | (go_simp; with_reducible rfl))); simp only [Act.put, List.setIfInBounds_toArray, List.set_cons_zero, List.set_cons_succ]; go_big_quiet_on))))
  refine wpQuiet_nil ?_
  intro w4 h4
  have C4 : Hid (CliB w4 b (s.tryAt now)) := HB2.out.on h4
  have O4 : Hid (Only (· = b) w w4) := HO2.out.then (.of (S := fun _ => False) h4) (fun _ _ h => h.elim)
  clear FX HX h4
  go_wp2
  go_returns
  exact ⟨rfl, C4.out, O4.out⟩
end Go.Proofs.Ytpcbpimlakehcaa
