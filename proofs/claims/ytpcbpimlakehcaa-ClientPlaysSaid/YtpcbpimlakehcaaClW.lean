/-
  A CLIENT's Answer, Pending, New, by contract. No condition but that its numbers are such as a client has.
-/
import Derived.Test.YtpcbpimlakehcaaClV
namespace Go.Proofs.Ytpcbpimlakehcaa
open Go.RowKit

/-- All cells of a client's block. -/
theorem Cli.cells {w : World} {b : Nat} {s : CliV} {kv : Value} (h : w.heap[b]? = some (.cells (cliCells s kv) 91 (0, 0))) :
    w.cell? ⟨b, 0, none⟩ = some (.int .i64 s.id) ∧ w.cell? ⟨b, 1, none⟩ = some (.int .i64 s.n) ∧ w.cell? ⟨b, 2, none⟩ = some (.int .i64 s.seq) ∧ w.cell? ⟨b, 3, none⟩ = some (.int .i64 s.ep) ∧ w.cell? ⟨b, 4, none⟩ = some kv ∧
    w.cell? ⟨b, 5, none⟩ = some (.int .i64 s.q.client) ∧ w.cell? ⟨b, 6, none⟩ = some (.int .i64 s.q.seq) ∧ w.cell? ⟨b, 7, none⟩ = some (.int .i64 s.q.kind) ∧ w.cell? ⟨b, 8, none⟩ = some (.int .i64 s.q.id) ∧ w.cell? ⟨b, 9, none⟩ = some (.int .i64 s.q.mtch) ∧ w.cell? ⟨b, 10, none⟩ = some (.string s.q.data) ∧
    w.cell? ⟨b, 11, none⟩ = some (.int .i64 s.asked) ∧ w.cell? ⟨b, 12, none⟩ = some (.int .i64 s.tries) := by
  refine ⟨?_, ?_, ?_, ?_, ?_, ?_, ?_, ?_, ?_, ?_, ?_, ?_, ?_⟩ <;> simp [World.cell?, h, cliCells]
theorem Cli.free {w : World} {b : Nat} {s : CliV} {kv : Value} (h : w.heap[b]? = some (.cells (cliCells s kv) 91 (0, 0))) (o : Nat) : w.frozen? ⟨b, o, none⟩ = false := by simp [World.frozen?, h]
def zeroP : List Value := [.int .i64 0, .int .i64 0, .int .i64 0, .int .i64 0, .int .i64 0, .string ⟨#[]⟩, .int .i64 0, .int .i64 0]
theorem set_rest (s : CliV) (kv : Value) : setL (cliCells s kv) 5 zeroP = cliCells s.rest kv := by simp [setL, cliCells, zeroP, CliV.rest, zeroQ]
theorem Cli.rests {w : World} {b : Nat} {s : CliV} (H : Cli w b s) : Cli (storedL w b 5 zeroP) b s.rest ∧ Only (· = b) w (storedL w b 5 zeroP) := by
  obtain ⟨kv, h, hr⟩ := H.blk
  have ho := storedL_only (R := b) zeroP 5 w
  have e := storedL_heap zeroP 5 w _ h
  rw [set_rest s kv] at e
  exact ⟨⟨⟨kv, e, hr.beside h cli_ty ho⟩, CliV.rest_ok H.ok⟩, ho⟩

set_option maxRecDepth 100000 in
set_option maxHeartbeats 1000000 in
theorem clanswer_no {w : World} {b : Nat} {s : CliV} (H : Cli w b s) (k : Int) (hk : ¬ forV s k) : Calls Try.prog 24 #[.pointer (some ⟨b, 0, none⟩), .int .i64 k] w fun e w' => e = .returned (.bool false) ∧ w = w' := by
  have HF := Lib.hid (clfor_r H k false (decide_eq_false hk))
  clear H
  go_enter Try.func24, Try.ntmps24
  go_wp2_with fail
  with_reducible refine HF.out.mono ?_
  rintro e w1 ⟨rfl, rfl⟩
  go_wp2
  go_returns
  exact ⟨rfl, rfl⟩
set_option maxRecDepth 100000 in
set_option maxHeartbeats 1000000 in
theorem clanswer_yes {w : World} {b : Nat} {s : CliV} (H : Cli w b s) (k : Int) (hk : forV s k) : Calls Try.prog 24 #[.pointer (some ⟨b, 0, none⟩), .int .i64 k] w fun e w' => e = .returned (.bool true) ∧ Cli w' b s.rest ∧ Only (· = b) w w' := by
  have HF := Lib.hid (clfor_r H k true (decide_eq_true hk))
  have HR := Lib.hid H.rests
  obtain ⟨kv, hb, -⟩ := H.blk
  obtain ⟨-, -, -, -, -, c5, c6, c7, c8, c9, c10, c11, c12⟩ := Cli.cells hb
  have hf := Cli.free hb
  have f5 := hf 5
  have f6 := hf 6
  have f7 := hf 7
  have f8 := hf 8
  have f9 := hf 9
  have f10 := hf 10
  have f11 := hf 11
  have f12 := hf 12
  clear H hb hf
  go_enter Try.func24, Try.ntmps24
  go_wp2_with fail
  with_reducible refine HF.out.mono ?_
  rintro e w1 ⟨rfl, rfl⟩
  go_wp2
  go_returns
  exact ⟨rfl, HR.out⟩

def zeroR : Array Value := #[.int .i64 0, .int .i64 0, .int .i64 0, .int .i64 0, .int .i64 0, .string ⟨#[]⟩]
set_option maxRecDepth 100000 in
set_option maxHeartbeats 1000000 in
theorem clpending_r {w : World} {b : Nat} {s : CliV} (H : Cli w b s) (R : Bool) (hR : Hid (decide (0 < s.tries) = R)) : Calls Try.prog 26 #[.pointer (some ⟨b, 0, none⟩)] w fun e w' => e = .returned (.tuple #[s.q.val, .bool R]) ∧ Below w.heap.size w w' := by
  have H1 : Cli (w.alloc (.cells zeroR 33)) b s := H.on ((Below.refl _ w).alloc (Nat.le_refl _) _)
  have HW := Lib.hid (clwaits_r H1 R hR)
  have hlt := H.lt
  have hne : ¬ w.heap.size = b := by omega
  have hne2 : ¬ b = w.heap.size := by omega
  obtain ⟨kv, hb, -⟩ := H1.blk
  obtain ⟨-, -, -, -, -, c5, c6, c7, c8, c9, c10, -, -⟩ := Cli.cells hb
  have HB : Hid (Below w.heap.size w (w.alloc (.cells zeroR 33))) := (Below.refl _ w).alloc (Nat.le_refl _) _
  have HX : Hid ((w.alloc (.cells zeroR 33)).heap[w.heap.size]? = some (.cells zeroR 33 (0, 0))) := heap_alloc_new w _
  have hz : R = false → s.q = zeroQ := fun h => (H.ok.zq (by have := of_decide_eq_false (hR.out.trans h); omega)).1
  have HZ := Lib.hid hz
  have HC := Lib.hid (⟨c5, c6, c7, c8, c9, c10⟩ : _ ∧ _ ∧ _ ∧ _ ∧ _ ∧ _)
  clear H H1 hb hz c5 c6 c7 c8 c9 c10 hR
  unfold zeroR at HW HC HX HB
  obtain ⟨W1, hW1⟩ : ∃ W1, W1 = w.alloc (.cells #[.int .i64 0, .int .i64 0, .int .i64 0, .int .i64 0, .int .i64 0, .string ⟨#[]⟩] 33) := ⟨_, rfl⟩
  rw [← hW1] at HW HC HX HB
  have HS : Hid (∀ vs, Below w.heap.size w (storedL W1 w.heap.size 0 vs)) := fun vs => (storedL_only vs 0 W1).below HB.out (fun _ h => h ▸ Nat.le_refl _) HB.out.size
  have HV : Hid (∀ v0 v1 v2 v3 v4 v5, (storedL W1 w.heap.size 0 [v0, v1, v2, v3, v4, v5]).heap[w.heap.size]? = some (.cells #[v0, v1, v2, v3, v4, v5] 33 (0, 0))) := fun v0 v1 v2 v3 v4 v5 => by
    have h := storedL_heap [v0, v1, v2, v3, v4, v5] 0 W1 _ HX.out
    simpa [setL] using h
  have hx := HX.out
  have y0 : W1.cell? ⟨w.heap.size, 0, none⟩ = some (.int .i64 0) := by simp [World.cell?, hx]
  have y1 : W1.cell? ⟨w.heap.size, 1, none⟩ = some (.int .i64 0) := by simp [World.cell?, hx]
  have y2 : W1.cell? ⟨w.heap.size, 2, none⟩ = some (.int .i64 0) := by simp [World.cell?, hx]
  have y3 : W1.cell? ⟨w.heap.size, 3, none⟩ = some (.int .i64 0) := by simp [World.cell?, hx]
  have y4 : W1.cell? ⟨w.heap.size, 4, none⟩ = some (.int .i64 0) := by simp [World.cell?, hx]
  have y5 : W1.cell? ⟨w.heap.size, 5, none⟩ = some (.string ⟨#[]⟩) := by simp [World.cell?, hx]
  have z0 : W1.frozen? ⟨w.heap.size, 0, none⟩ = false := by simp [World.frozen?, hx]
  have z1 : W1.frozen? ⟨w.heap.size, 1, none⟩ = false := by simp [World.frozen?, hx]
  have z2 : W1.frozen? ⟨w.heap.size, 2, none⟩ = false := by simp [World.frozen?, hx]
  have z3 : W1.frozen? ⟨w.heap.size, 3, none⟩ = false := by simp [World.frozen?, hx]
  have z4 : W1.frozen? ⟨w.heap.size, 4, none⟩ = false := by simp [World.frozen?, hx]
  have z5 : W1.frozen? ⟨w.heap.size, 5, none⟩ = false := by simp [World.frozen?, hx]
  clear hx
  have HL := Lib.hid hlt
  clear hlt
  have HV1 : Hid (Hid (R = false) → (.tuple #[s.q.val, .bool R] : Value) = .tuple #[.agg #[.int .i64 0, .int .i64 0, .int .i64 0, .int .i64 0, .int .i64 0, .string ⟨#[]⟩], .bool false]) := fun h => by
    rw [HZ.out h.out, h.out]; rfl
  go_enter Try.func26, Try.ntmps26
  cases R
  · rw [HV1.out (show _ = _ from rfl)]
    have HE := Lib.hid (HV.out (.int .i64 0) (.int .i64 0) (.int .i64 0) (.int .i64 0) (.int .i64 0) (.string ⟨#[]⟩))
    have HQ := Lib.hid (HS.out [.int .i64 0, .int .i64 0, .int .i64 0, .int .i64 0, .int .i64 0, .string ⟨#[]⟩])
    clear HV1 HZ HV HS HB
    go_wp2_with fail
    rw [← hW1]
    clear hW1
    with_reducible refine HW.out.mono ?_
    rintro e w1 ⟨rfl, rfl⟩
    clear HW HX HC
    go_wp2
    have hx := HE.out
    have e0 : (storedL W1 w.heap.size 0 [.int .i64 0, .int .i64 0, .int .i64 0, .int .i64 0, .int .i64 0, .string ⟨#[]⟩]).cell? ⟨w.heap.size, 0, none⟩ = some (.int .i64 0) := by simp [World.cell?, hx]
    have e1 : (storedL W1 w.heap.size 0 [.int .i64 0, .int .i64 0, .int .i64 0, .int .i64 0, .int .i64 0, .string ⟨#[]⟩]).cell? ⟨w.heap.size, 1, none⟩ = some (.int .i64 0) := by simp [World.cell?, hx]
    have e2 : (storedL W1 w.heap.size 0 [.int .i64 0, .int .i64 0, .int .i64 0, .int .i64 0, .int .i64 0, .string ⟨#[]⟩]).cell? ⟨w.heap.size, 2, none⟩ = some (.int .i64 0) := by simp [World.cell?, hx]
    have e3 : (storedL W1 w.heap.size 0 [.int .i64 0, .int .i64 0, .int .i64 0, .int .i64 0, .int .i64 0, .string ⟨#[]⟩]).cell? ⟨w.heap.size, 3, none⟩ = some (.int .i64 0) := by simp [World.cell?, hx]
    have e4 : (storedL W1 w.heap.size 0 [.int .i64 0, .int .i64 0, .int .i64 0, .int .i64 0, .int .i64 0, .string ⟨#[]⟩]).cell? ⟨w.heap.size, 4, none⟩ = some (.int .i64 0) := by simp [World.cell?, hx]
    have e5 : (storedL W1 w.heap.size 0 [.int .i64 0, .int .i64 0, .int .i64 0, .int .i64 0, .int .i64 0, .string ⟨#[]⟩]).cell? ⟨w.heap.size, 5, none⟩ = some (.string ⟨#[]⟩) := by simp [World.cell?, hx]
    simp only [storedL, Nat.zero_add, Nat.reduceAdd] at e0 e1 e2 e3 e4 e5
    refine bodyPost_ret (v := .tuple #[.agg #[.int .i64 0, .int .i64 0, .int .i64 0, .int .i64 0, .int .i64 0, .string ⟨#[]⟩], .bool false]) (by simp [results, Try.results26, go_sem, e0, e1, e2, e3, e4, e5]) rfl ⟨rfl, HQ.out⟩
  · obtain ⟨⟨cl, sq, kd, id, mt, dt⟩, hq⟩ : ∃ q, q = s.q := ⟨_, rfl⟩
    rw [← hq] at HC ⊢
    simp only [ReqV.val] at HC ⊢
    have HE := Lib.hid (HV.out (.int .i64 cl) (.int .i64 sq) (.int .i64 kd) (.int .i64 id) (.int .i64 mt) (.string dt))
    have HQ := Lib.hid (HS.out [.int .i64 cl, .int .i64 sq, .int .i64 kd, .int .i64 id, .int .i64 mt, .string dt])
    obtain ⟨c5, c6, c7, c8, c9, c10⟩ := HC.out
    clear HV1 HZ HV HS HB hq
    go_wp2_with fail
    rw [← hW1]
    clear hW1
    with_reducible refine HW.out.mono ?_
    rintro e w1 ⟨rfl, rfl⟩
    clear HW HX HC
    go_wp2
    have hx := HE.out
    have e0 : (storedL W1 w.heap.size 0 [.int .i64 cl, .int .i64 sq, .int .i64 kd, .int .i64 id, .int .i64 mt, .string dt]).cell? ⟨w.heap.size, 0, none⟩ = some (.int .i64 cl) := by simp [World.cell?, hx]
    have e1 : (storedL W1 w.heap.size 0 [.int .i64 cl, .int .i64 sq, .int .i64 kd, .int .i64 id, .int .i64 mt, .string dt]).cell? ⟨w.heap.size, 1, none⟩ = some (.int .i64 sq) := by simp [World.cell?, hx]
    have e2 : (storedL W1 w.heap.size 0 [.int .i64 cl, .int .i64 sq, .int .i64 kd, .int .i64 id, .int .i64 mt, .string dt]).cell? ⟨w.heap.size, 2, none⟩ = some (.int .i64 kd) := by simp [World.cell?, hx]
    have e3 : (storedL W1 w.heap.size 0 [.int .i64 cl, .int .i64 sq, .int .i64 kd, .int .i64 id, .int .i64 mt, .string dt]).cell? ⟨w.heap.size, 3, none⟩ = some (.int .i64 id) := by simp [World.cell?, hx]
    have e4 : (storedL W1 w.heap.size 0 [.int .i64 cl, .int .i64 sq, .int .i64 kd, .int .i64 id, .int .i64 mt, .string dt]).cell? ⟨w.heap.size, 4, none⟩ = some (.int .i64 mt) := by simp [World.cell?, hx]
    have e5 : (storedL W1 w.heap.size 0 [.int .i64 cl, .int .i64 sq, .int .i64 kd, .int .i64 id, .int .i64 mt, .string dt]).cell? ⟨w.heap.size, 5, none⟩ = some (.string dt) := by simp [World.cell?, hx]
    simp only [storedL, Nat.zero_add, Nat.reduceAdd] at e0 e1 e2 e3 e4 e5
    refine bodyPost_ret (v := .tuple #[.agg #[.int .i64 cl, .int .i64 sq, .int .i64 kd, .int .i64 id, .int .i64 mt, .string dt], .bool true]) (by simp [results, Try.results26, go_sem, e0, e1, e2, e3, e4, e5]) rfl ⟨rfl, HQ.out⟩

/-! ### New -/
def newCli (id n : Nat) : CliV := ⟨id, n, 0, 0, [], zeroQ, 0, 0⟩
set_option maxHeartbeats 1000000 in
theorem clnew_no (id n : Int) (w : World) (h : ¬ (0 ≤ id ∧ id < 4 ∧ 1 ≤ n ∧ n ≤ 5)) : Calls Try.prog 16 #[.int .i64 id, .int .i64 n] w fun e w' => e = .returned (.tuple #[.pointer none, .int .i64 1]) ∧ w = w' := by
  go_enter Try.func16, Try.ntmps16
  by_cases h1 : id < 0
  · go_wp2
    go_returns
    exact ⟨rfl, rfl⟩
  by_cases h2 : 4 ≤ id
  · go_wp2
    go_returns
    exact ⟨rfl, rfl⟩
  by_cases h3 : n < 1
  · go_wp2
    go_returns
    exact ⟨rfl, rfl⟩
  have h4 : 5 < n := by omega
  go_wp2
  go_returns
  exact ⟨rfl, rfl⟩
set_option maxHeartbeats 1000000 in
theorem clnew_yes (id n : Nat) (w : World) (h1 : id < 4) (h2 : 1 ≤ n) (h3 : n ≤ 5) : Calls Try.prog 16 #[.int .i64 id, .int .i64 n] w fun e w' => e = .returned (.tuple #[.pointer (some ⟨w.heap.size, 0, none⟩), .int .i64 0]) ∧ Cli w' w.heap.size (newCli id n) ∧ Below w.heap.size w w' := by
  have HN : Hid (Cli (w.alloc (.cells #[.int .i64 id, .int .i64 n, .int .i64 0, .int .i64 0, .slice none 0 0, .int .i64 0, .int .i64 0, .int .i64 0, .int .i64 0, .int .i64 0, .string ⟨#[]⟩, .int .i64 0, .int .i64 0] 91)) w.heap.size (newCli id n)) :=
    ⟨⟨.slice none 0 0, heap_alloc_new w _, RowI.none _⟩, ⟨h1, h2, h3, Nat.zero_le _, Int.le_refl _, by show (0 : Int) ≤ _; decide, Nat.zero_le _, Int.le_refl _, by show (0 : Int) ≤ _; decide, Nat.zero_le _, fun _ => ⟨rfl, rfl⟩, fun h => absurd h (Nat.lt_irrefl _)⟩⟩
  have HB : Hid (Below w.heap.size w (w.alloc (.cells #[.int .i64 id, .int .i64 n, .int .i64 0, .int .i64 0, .slice none 0 0, .int .i64 0, .int .i64 0, .int .i64 0, .int .i64 0, .int .i64 0, .string ⟨#[]⟩, .int .i64 0, .int .i64 0] 91))) := (Below.refl _ w).alloc (Nat.le_refl _) _
  go_enter Try.func16, Try.ntmps16
  go_wp2
  go_returns
  exact ⟨rfl, HN.out, HB.out⟩
end Go.Proofs.Ytpcbpimlakehcaa
