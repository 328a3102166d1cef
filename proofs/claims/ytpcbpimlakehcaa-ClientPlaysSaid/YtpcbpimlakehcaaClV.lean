/-
  A CLIENT IN MEMORY: its block as plain data; isMade, Tries, waits, waitsFor, Seq, Answer, Pending, New, by contract. No condition but that its numbers are such as a client has.
-/
import Derived.Test.YtpcbpimlakehcaaPsC
import Derived.Test.YtpcbpimlakehcaaItemT
namespace Go.Proofs.Ytpcbpimlakehcaa
open Go.RowKit

/-- A client as plain data: q is the request that waits (the zero one, if none does). -/
structure CliV where
  id : Nat
  n : Nat
  seq : Nat
  ep : Int
  L : List Int
  q : ReqV
  asked : Int
  tries : Nat
def zeroQ : ReqV := ⟨0, 0, 0, 0, 0, ⟨#[]⟩⟩
/-- The numbers are such as a client has. -/
structure CliV.ok (s : CliV) : Prop where
  id4 : s.id < 4
  n1 : 1 ≤ s.n
  n5 : s.n ≤ 5
  sq : s.seq ≤ 1073741824
  as0 : 0 ≤ s.asked
  as1 : s.asked ≤ 9223372036854775807
  tr : s.tries ≤ 100000
  ep0 : 0 ≤ s.ep
  ep1 : s.ep ≤ 1073741824
  ln : s.L.length ≤ 5
  zq : s.tries = 0 → s.q = zeroQ ∧ s.asked = 0
  qm : 0 < s.tries → s.q.may ∧ s.q.client = s.id ∧ s.q.seq = s.seq
def cliCells (s : CliV) (kv : Value) : Array Value :=
  #[.int .i64 s.id, .int .i64 s.n, .int .i64 s.seq, .int .i64 s.ep, kv, .int .i64 s.q.client, .int .i64 s.q.seq, .int .i64 s.q.kind, .int .i64 s.q.id, .int .i64 s.q.mtch, .string s.q.data, .int .i64 s.asked, .int .i64 s.tries]
/-- Block b holds these numbers. -/
def CliB (w : World) (b : Nat) (s : CliV) : Prop := ∃ kv, w.heap[b]? = some (.cells (cliCells s kv) 91 (0, 0)) ∧ RowI w kv s.L
/-- Block b is a client. -/
structure Cli (w : World) (b : Nat) (s : CliV) : Prop where
  blk : CliB w b s
  ok : s.ok
theorem CliB.keep {S : Nat → Prop} {w w' : World} {b : Nat} {s : CliV} (H : CliB w b s) (ho : Only S w w') (hs : ¬ S b) (hi : ∀ k cs, w.heap[k]? = some (.cells cs 3 (0, 0)) → ¬ S k) : CliB w' b s := by
  obtain ⟨kv, h, hr⟩ := H
  exact ⟨kv, (ho.block b (lt_of_block h) hs).trans h, hr.keep ho hi⟩
theorem CliB.on {w w' : World} {b : Nat} {s : CliV} (H : CliB w b s) (hb : Below w.heap.size w w') : CliB w' b s := H.keep (S := fun _ => False) (.of hb) (fun h => h) (fun _ _ _ h => h)

section
variable {w w' : World} {b : Nat} {s : CliV}
theorem Cli.lt (H : Cli w b s) : b < w.heap.size := by obtain ⟨kv, h, _⟩ := H.blk; exact lt_of_block h
theorem Cli.keep {S : Nat → Prop} (H : Cli w b s) (ho : Only S w w') (hs : ¬ S b) (hi : ∀ k cs, w.heap[k]? = some (.cells cs 3 (0, 0)) → ¬ S k) : Cli w' b s := by
  obtain ⟨kv, h, hr⟩ := H.blk
  exact ⟨⟨kv, (ho.block b (lt_of_block h) hs).trans h, hr.keep ho hi⟩, H.ok⟩
theorem Cli.on (H : Cli w b s) (hb : Below w.heap.size w w') : Cli w' b s := H.keep (S := fun _ => False) (.of hb) (fun h => h) (fun _ _ _ h => h)
theorem Cli.drew (H : Cli w b s) : Cli w.drew b s := H.on (Below.refl _ w).drew
end
theorem cli_ty : (91 : TypeId) ≠ 3 := by decide

set_option maxHeartbeats 400000 in
theorem clmade_r {w : World} {b : Nat} {s : CliV} (H : Cli w b s) : Calls Try.prog 52 #[.pointer (some ⟨b, 0, none⟩)] w fun e w' => e = .returned (.bool true) ∧ w = w' := by
  obtain ⟨kv, hb, -⟩ := H.blk
  have h1 := H.ok.n1
  have h2 : (0 : Int) < (s.n : Int) := by omega
  have c1 : w.cell? ⟨b, 1, none⟩ = some (.int .i64 s.n) := by simp [World.cell?, hb, cliCells]
  clear H hb
  go_enter Try.func52, Try.ntmps52
  go_wp2
  go_returns
  exact ⟨ret_bool (by simp; omega), rfl⟩
set_option maxHeartbeats 400000 in
theorem cltries_r {w : World} {b : Nat} {s : CliV} (H : Cli w b s) : Calls Try.prog 20 #[.pointer (some ⟨b, 0, none⟩)] w fun e w' => e = .returned (.int .i64 s.tries) ∧ w = w' := by
  obtain ⟨kv, hb, -⟩ := H.blk
  have c1 : w.cell? ⟨b, 12, none⟩ = some (.int .i64 s.tries) := by simp [World.cell?, hb, cliCells]
  clear H hb
  go_enter Try.func20, Try.ntmps20
  go_wp2
  go_returns
  exact ⟨rfl, rfl⟩
set_option maxHeartbeats 400000 in
theorem clseq_r {w : World} {b : Nat} {s : CliV} (H : Cli w b s) : Calls Try.prog 27 #[.pointer (some ⟨b, 0, none⟩)] w fun e w' => e = .returned (.int .i64 s.seq) ∧ w = w' := by
  obtain ⟨kv, hb, -⟩ := H.blk
  have c1 : w.cell? ⟨b, 2, none⟩ = some (.int .i64 s.seq) := by simp [World.cell?, hb, cliCells]
  clear H hb
  go_enter Try.func27, Try.ntmps27
  go_wp2
  go_returns
  exact ⟨rfl, rfl⟩
set_option maxHeartbeats 400000 in
theorem clwaits_r {w : World} {b : Nat} {s : CliV} (H : Cli w b s) (R : Bool) (hR : Hid (decide (0 < s.tries) = R)) : Calls Try.prog 54 #[.pointer (some ⟨b, 0, none⟩)] w fun e w' => e = .returned (.bool R) ∧ w = w' := by
  have HT := Lib.hid (cltries_r H)
  clear H
  go_enter Try.func54, Try.ntmps54
  go_wp2_with fail
  with_reducible refine HT.out.mono ?_
  rintro e w1 ⟨rfl, rfl⟩
  go_wp2
  go_returns
  exact ⟨ret_bool (by (rw [← hR.out]) <;> simp), rfl⟩
def forV (s : CliV) (k : Int) : Prop := 0 < s.tries ∧ s.q.seq = k
instance (s : CliV) (k : Int) : Decidable (forV s k) := by unfold forV; infer_instance
set_option maxHeartbeats 400000 in
theorem clfor_r {w : World} {b : Nat} {s : CliV} (H : Cli w b s) (k : Int) (R : Bool) (hR : Hid (decide (forV s k) = R)) : Calls Try.prog 56 #[.pointer (some ⟨b, 0, none⟩), .int .i64 k] w fun e w' => e = .returned (.bool R) ∧ w = w' := by
  obtain ⟨kv, hb, -⟩ := H.blk
  have c1 : w.cell? ⟨b, 6, none⟩ = some (.int .i64 s.q.seq) := by simp [World.cell?, hb, cliCells]
  obtain ⟨M, hM⟩ : ∃ M, decide (0 < s.tries) = M := ⟨_, rfl⟩
  have HW := Lib.hid (clwaits_r H M hM)
  clear H hb
  go_enter Try.func56, Try.ntmps56
  cases M
  · have HF : Hid (R = false) := hR.out.symm.trans (decide_eq_false fun h => absurd h.1 (of_decide_eq_false hM))
    clear hR hM
    go_wp2_with fail
    with_reducible refine HW.out.mono ?_
    rintro e w1 ⟨rfl, rfl⟩
    go_wp2
    go_returns
    exact ⟨ret_bool HF.out.symm, rfl⟩
  · have HF : Hid (decide (s.q.seq = k) = R) := by
      show _ = _
      rw [← hR.out]
      exact decide_eq_decide.2 ⟨fun h => ⟨of_decide_eq_true hM, h⟩, fun h => h.2⟩
    clear hR hM
    generalize s.q.seq = z at c1 HF
    go_wp2_with fail
    with_reducible refine HW.out.mono ?_
    rintro e w1 ⟨rfl, rfl⟩
    go_wp2
    go_returns
    exact ⟨ret_bool (by rw [← HF.out]; first | rfl | (simp; done) | (rw [Bool.eq_iff_iff]; simp)), rfl⟩
/-- None waits any more. -/
def CliV.rest (s : CliV) : CliV := { s with q := zeroQ, asked := 0, tries := 0 }
theorem CliV.rest_ok {s : CliV} (h : s.ok) : s.rest.ok := ⟨h.id4, h.n1, h.n5, h.sq, Int.le_refl _, by show (0 : Int) ≤ _; decide, Nat.zero_le _, h.ep0, h.ep1, h.ln, fun _ => ⟨rfl, rfl⟩, fun h => absurd h (Nat.lt_irrefl _)⟩
end Go.Proofs.Ytpcbpimlakehcaa
