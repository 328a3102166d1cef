/-
  THE REFERENCE'S CLIENT: its block as plain data (the same as the program's); Wait, Due, Target, Answer, Tick, Told, Ask, by contract. No condition but that its numbers are such as a client has.
-/
import Derived.Test.YtpcbpimlakehcaaClO
import Derived.Test.YtpcbpimlakehcaaItemMayS
import Derived.Test.YtpcbpimlakehcaaItemRC
namespace Go.Proofs.Ytpcbpimlakehcaa
open Go.RowKit

/-- The reference's cells: Id, N, Seq, Asked, Tries, Req, Known. -/
def qclCells (s : CliV) (a : Int) (kv : Value) : Array Value :=
  #[.int .i64 s.id, .int .i64 s.n, .int .i64 s.seq, .int .i64 a, .int .i64 s.tries, .int .i64 s.q.client, .int .i64 s.q.seq, .int .i64 s.q.kind, .int .i64 s.q.id, .int .i64 s.q.mtch, .string s.q.data, .int .i64 s.ep, kv]
/-- Block b is the reference's client of these numbers (when it was asked stands there only while it waits). -/
def QClB (w : World) (b : Nat) (s : CliV) : Prop := ∃ a kv, w.heap[b]? = some (.cells (qclCells s a kv) 42 (0, 0)) ∧ RowI w kv s.L ∧ (0 < s.tries → a = s.asked)
theorem QClB.lt {w : World} {b : Nat} {s : CliV} (H : QClB w b s) : b < w.heap.size := by obtain ⟨a, kv, h, _⟩ := H; exact lt_of_block h
theorem QClB.keep {S : Nat → Prop} {w w' : World} {b : Nat} {s : CliV} (H : QClB w b s) (ho : Only S w w') (hs : ¬ S b) (hi : ∀ k cs, w.heap[k]? = some (.cells cs 3 (0, 0)) → ¬ S k) : QClB w' b s := by
  obtain ⟨a, kv, h, hr, ha⟩ := H
  exact ⟨a, kv, (ho.block b (lt_of_block h) hs).trans h, hr.keep ho hi, ha⟩
theorem QClB.on {w w' : World} {b : Nat} {s : CliV} (H : QClB w b s) (hb : Below w.heap.size w w') : QClB w' b s := H.keep (S := fun _ => False) (.of hb) (fun h => h) (fun _ _ _ h => h)
theorem qcli_ty : (42 : TypeId) ≠ 3 := by decide
theorem QClB.cells {w : World} {b : Nat} {s : CliV} {a : Int} {kv : Value} (h : w.heap[b]? = some (.cells (qclCells s a kv) 42 (0, 0))) :
    w.cell? ⟨b, 0, none⟩ = some (.int .i64 s.id) ∧ w.cell? ⟨b, 1, none⟩ = some (.int .i64 s.n) ∧ w.cell? ⟨b, 2, none⟩ = some (.int .i64 s.seq) ∧ w.cell? ⟨b, 3, none⟩ = some (.int .i64 a) ∧ w.cell? ⟨b, 4, none⟩ = some (.int .i64 s.tries) ∧
    w.cell? ⟨b, 5, none⟩ = some (.int .i64 s.q.client) ∧ w.cell? ⟨b, 6, none⟩ = some (.int .i64 s.q.seq) ∧ w.cell? ⟨b, 7, none⟩ = some (.int .i64 s.q.kind) ∧ w.cell? ⟨b, 8, none⟩ = some (.int .i64 s.q.id) ∧ w.cell? ⟨b, 9, none⟩ = some (.int .i64 s.q.mtch) ∧ w.cell? ⟨b, 10, none⟩ = some (.string s.q.data) ∧
    w.cell? ⟨b, 11, none⟩ = some (.int .i64 s.ep) ∧ w.cell? ⟨b, 12, none⟩ = some kv := by
  refine ⟨?_, ?_, ?_, ?_, ?_, ?_, ?_, ?_, ?_, ?_, ?_, ?_, ?_⟩ <;> simp [World.cell?, h, qclCells]
theorem QClB.free {w : World} {b : Nat} {s : CliV} {a : Int} {kv : Value} (h : w.heap[b]? = some (.cells (qclCells s a kv) 42 (0, 0))) (o : Nat) : w.frozen? ⟨b, o, none⟩ = false := by simp [World.frozen?, h]

set_option maxHeartbeats 400000 in
theorem qwait_r (t : Nat) (w : World) : Calls Try.prog 81 #[.int .i64 t] w fun e w' => e = .returned (.int .i64 (waitV (t : Int))) ∧ w = w' := by
  have hv : Hid (waitV (t : Int) = if t < 4 then 8 * (t : Int) else 32) := by
    show _ = _
    unfold waitV nearV
    (repeat' split) <;> omega
  rw [hv.out]
  clear hv
  go_enter Try.func81, Try.ntmps81
  by_cases h1 : t < 1
  · have h1' : (t : Int) < 1 := by omega
    have e : t = 0 := by omega
    rw [if_pos (by omega), e]
    clear e
    go_wp2
    go_returns
    exact ⟨rfl, rfl⟩
  · have h1' : ¬ (t : Int) < 1 := by omega
    by_cases h4 : t < 4
    · have h4' : (t : Int) < 4 := by omega
      rw [if_pos h4]
      clear h1 h4
      go_wp2
      all_goals
        go_returns
        refine ⟨congrArg (fun z => Ending.returned (.int .i64 z)) ?_, rfl⟩
        (repeat' split) <;> omega
    · have h4' : ¬ (t : Int) < 4 := by omega
      rw [if_neg h4]
      clear h1 h4
      go_wp2
      all_goals
        go_returns
        refine ⟨congrArg (fun z => Ending.returned (.int .i64 z)) ?_, rfl⟩
        (repeat' split) <;> omega
set_option maxHeartbeats 400000 in
theorem qdue_any (now asked : Int) (t : Nat) (w : World) (h0 : 0 ≤ asked) (hw : now ≤ 9223372036854775807) (R : Bool) (hR : Hid (decide (asked ≤ now ∧ waitV (t : Int) ≤ now - asked) = R)) :
    Calls Try.prog 62 #[.int .i64 now, .int .i64 asked, .int .i64 t] w fun e w' => e = .returned (.bool R) ∧ w = w' := by
  by_cases h1 : asked ≤ now
  · have h2 : 0 ≤ now := by omega
    obtain ⟨M, hM⟩ : ∃ M, waitV (t : Int) = M := ⟨_, rfl⟩
    have HW : Hid (∀ u, Calls Try.prog 81 #[.int .i64 t] u fun e w' => e = .returned (.int .i64 M) ∧ u = w') := by rw [← hM]; exact fun u => qwait_r t u
    have HD : Hid (wrap64 (now - asked) = now - asked) := by show _ = _; exact IntWalk.wrap64_in _ (by omega)
    have HR : Hid (decide (M ≤ now - asked) = R) := by
      show _ = _
      rw [← hR.out, ← hM]
      exact decide_eq_decide.2 ⟨fun h => ⟨h1, h⟩, fun h => h.2⟩
    clear hM hR hw
    go_enter Try.func62, Try.ntmps62
    go_wp2_with fail
    with_reducible refine (HW.out _).mono ?_
    rintro e w1 ⟨rfl, rfl⟩
    go_wp2
    go_returns
    exact ⟨ret_bool (by rw [← HR.out]; first | (rw [HD.out]; done) | (simp [HD.out]; done) | rfl), rfl⟩
  · have HR : Hid (R = false) := hR.out.symm.trans (decide_eq_false fun h => h1 h.1)
    clear hR hw
    go_enter Try.func62, Try.ntmps62
    by_cases h3 : 0 ≤ now
    · go_wp2
      go_returns
      exact ⟨ret_bool HR.out.symm, rfl⟩
    · go_wp2
      go_returns
      exact ⟨ret_bool HR.out.symm, rfl⟩

/-! ### Answer -/
def qzero : List Value := [.int .i64 0, .int .i64 0, .int .i64 0, .int .i64 0, .int .i64 0, .int .i64 0, .string ⟨#[]⟩]
theorem qset_rest (s : CliV) (a : Int) (kv : Value) : setL (qclCells s a kv) 4 qzero = qclCells s.rest a kv := by simp [setL, qclCells, qzero, CliV.rest, zeroQ]
theorem QClB.rests {w : World} {b : Nat} {s : CliV} (H : QClB w b s) : QClB (storedL w b 4 qzero) b s.rest ∧ Only (· = b) w (storedL w b 4 qzero) := by
  obtain ⟨a, kv, h, hr, -⟩ := H
  have ho := storedL_only (R := b) qzero 4 w
  have e := storedL_heap qzero 4 w _ h
  rw [qset_rest s a kv] at e
  exact ⟨⟨a, kv, e, hr.beside h qcli_ty ho, fun h => absurd h (Nat.lt_irrefl _)⟩, ho⟩
set_option maxRecDepth 100000 in
set_option maxHeartbeats 1000000 in
theorem qclans_r {w : World} {b : Nat} {s : CliV} (H : QClB w b s) (ok : s.ok) (k : Int) : Calls Try.prog 25 #[.pointer (some ⟨b, 0, none⟩), .int .i64 k] w fun e w' => e = .returned (.bool (decide (forV s k))) ∧ QClB w' b (cansS s k) ∧ Only (· = b) w w' := by
  have HR := Lib.hid H.rests
  have HS := Lib.hid H
  obtain ⟨a, kv, hb, -⟩ := H
  obtain ⟨-, -, c2, -, c4, c5, c6, c7, c8, c9, c10, -, -⟩ := QClB.cells hb
  have hf := QClB.free hb
  have f4 := hf 4
  have f5 := hf 5
  have f6 := hf 6
  have f7 := hf 7
  have f8 := hf 8
  have f9 := hf 9
  have f10 := hf 10
  have HF : Hid (forV s k ↔ 0 < s.tries ∧ k = (s.seq : Int)) := by
    unfold forV
    exact ⟨fun h => ⟨h.1, by rw [← (ok.qm h.1).2.2]; exact h.2.symm⟩, fun h => ⟨h.1, by rw [(ok.qm h.1).2.2]; exact h.2.symm⟩⟩
  unfold cansS
  obtain ⟨t, ht⟩ : ∃ t, t = s.tries := ⟨_, rfl⟩
  obtain ⟨sq, hsq⟩ : ∃ n, n = s.seq := ⟨_, rfl⟩
  rw [← ht] at c4
  rw [← hsq] at c2
  rw [← ht, ← hsq] at HF
  clear hb hf ht hsq
  go_enter Try.func25, Try.ntmps25
  by_cases h0 : t = 0
  · have hnf : ¬ forV s k := fun h => by have := (HF.out.1 h).1; omega
    have HB : Hid (decide (forV s k) = false) := decide_eq_false hnf
    have e0 : ((t : Int) == 0) = true := by rw [h0]; rfl
    rw [if_neg hnf]
    clear h0 hnf
    go_wp2
    go_returns
    exact ⟨ret_bool HB.out.symm, HS.out, Only.refl _ _⟩
  · have e0 : ((t : Int) == 0) = false := by simpa using h0
    by_cases h1 : k = (sq : Int)
    · have hf : forV s k := HF.out.2 ⟨by omega, h1⟩
      have HB : Hid (decide (forV s k) = true) := decide_eq_true hf
      have e1 : (k != (sq : Int)) = false := by rw [h1]; simp
      rw [if_pos hf]
      clear h0 h1 hf
      go_wp2
      go_returns
      exact ⟨ret_bool HB.out.symm, HR.out⟩
    · have hnf : ¬ forV s k := fun h => h1 (HF.out.1 h).2
      have HB : Hid (decide (forV s k) = false) := decide_eq_false hnf
      have e1 : (k != (sq : Int)) = true := by simpa using h1
      rw [if_neg hnf]
      clear h0 h1 hnf
      go_wp2
      go_returns
      exact ⟨ret_bool HB.out.symm, HS.out, Only.refl _ _⟩
end Go.Proofs.Ytpcbpimlakehcaa
