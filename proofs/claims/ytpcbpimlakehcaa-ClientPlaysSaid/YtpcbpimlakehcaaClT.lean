/-
  A CLIENT as a law has it; TOLD: what casebooklaw21.told asks holds. No condition.
-/
import Derived.Test.YtpcbpimlakehcaaClZ
namespace Go.Proofs.Ytpcbpimlakehcaa
open Go.RowKit

/-- A law's client: made behind n; nothing below n is turned. -/
structure CO (n : Nat) (w : World) (b : Nat) (s : CliV) (u : World) : Prop where
  c : Cli u b s
  bel : Below n w u
  low : n ≤ b
  le : n ≤ w.heap.size
section
variable {n b : Nat} {w u u' : World} {s s' : CliV}
theorem CO.on (h : CO n w b s u) (hb : Below u.heap.size u u') : CO n w b s u' := ⟨h.c.on hb, h.bel.trans (hb.mono (Nat.le_trans h.le h.bel.size)), h.low, h.le⟩
theorem CO.turn (h : CO n w b s u) (hc : Cli u' b s') (ho : Only (· = b) u u') : CO n w b s' u' :=
  ⟨hc, ho.below h.bel (fun _ e => by have := h.low; omega) (Nat.le_trans h.le h.bel.size), h.low, h.le⟩
theorem CO.new {id m : Nat} (hc : Cli u w.heap.size (newCli id m)) (hb : Below w.heap.size w u) : CO w.heap.size w w.heap.size (newCli id m) u := ⟨hc, hb, Nat.le_refl _, Nat.le_refl _⟩
end
/-- A request's box at x. -/
def RqAt (u : World) (x : Nat) (q : ReqV) : Prop := u.heap[x]? = some (.cells #[.int .i64 q.client, .int .i64 q.seq, .int .i64 q.kind, .int .i64 q.id, .int .i64 q.mtch, .string q.data] 33 (0, 0))
theorem RqAt.on {u u' : World} {x : Nat} {q : ReqV} (h : RqAt u x q) (hb : Below u.heap.size u u') : RqAt u' x q := (hb.block x (lt_of_block h)).trans h
theorem RqAt.turn {u u' : World} {x b : Nat} {q : ReqV} (h : RqAt u x q) (ho : Only (· = b) u u') (hx : x ≠ b) : RqAt u' x q := (ho.block x (lt_of_block h) hx).trans h
theorem RqAt.new (w : World) (q : ReqV) : RqAt (w.alloc (.cells #[.int .i64 q.client, .int .i64 q.seq, .int .i64 q.kind, .int .i64 q.id, .int .i64 q.mtch, .string q.data] 33)) w.heap.size q := heap_alloc_new w _
theorem RqAt.cells {u : World} {x : Nat} {q : ReqV} (h : RqAt u x q) : u.cell? ⟨x, 0, none⟩ = some (.int .i64 q.client) ∧ u.cell? ⟨x, 1, none⟩ = some (.int .i64 q.seq) ∧ u.cell? ⟨x, 2, none⟩ = some (.int .i64 q.kind) ∧ u.cell? ⟨x, 3, none⟩ = some (.int .i64 q.id) ∧ u.cell? ⟨x, 4, none⟩ = some (.int .i64 q.mtch) ∧ u.cell? ⟨x, 5, none⟩ = some (.string q.data) := by
  have h' : u.heap[x]? = _ := h
  exact ⟨by simp [World.cell?, h'], by simp [World.cell?, h'], by simp [World.cell?, h'], by simp [World.cell?, h'], by simp [World.cell?, h'], by simp [World.cell?, h']⟩

def cq21 : ReqV := ⟨0, 0, 4, 2, 0, ⟨#[]⟩⟩
def c21 : CliV := (newCli 1 3).ask 5 cq21
theorem cq_may : (askQ (newCli 1 3) cq21).may := by decide
theorem cq_may2 : (askQ c21 cq21).may := by decide
theorem cg1 : targV (newCli 1 3).L (newCli 1 3).n 1 (wrQ cq21) = 1 := by decide
theorem cg2 : targV c21.L c21.n (c21.tries + 1) (wrQ c21.q) = 2 := by decide
theorem c21_no : ¬ dueV c21 12 := by decide
theorem c21_yes : dueV c21 13 := by decide
theorem c22_no : ¬ forV (c21.tryAt 13) 2 := by decide
theorem c22_yes : forV (c21.tryAt 13) 1 := by decide
set_option maxRecDepth 100000 in
set_option maxHeartbeats 4000000 in
theorem told21_any (w : World) : Calls Try.prog 15 #[] w fun e w' => e = .returned (.bool true) ∧ Below w.heap.size w w' := by
  have HNew : Hid (Calls Try.prog 16 #[.int .i64 1, .int .i64 3] w fun e w' => e = .returned (.tuple #[.pointer (some ⟨w.heap.size, 0, none⟩), .int .i64 0]) ∧ CO w.heap.size w w.heap.size (newCli 1 3) w') := (clnew_yes 1 3 w (by decide) (by decide) (by decide)).mono fun _ _ ⟨he, hc, hb⟩ => ⟨he, CO.new hc hb⟩
  have HBad : Hid (∀ u, Calls Try.prog 16 #[.int .i64 9, .int .i64 3] u fun e w' => e = .returned (.tuple #[.pointer none, .int .i64 1]) ∧ u = w') := fun u => clnew_no 9 3 u (by omega)
  have HA1 : Hid (∀ u, CO w.heap.size w w.heap.size (newCli 1 3) u → Calls Try.prog 17 #[.pointer (some ⟨w.heap.size, 0, none⟩), .int .i64 5, .agg #[.int .i64 0, .int .i64 0, .int .i64 4, .int .i64 2, .int .i64 0, .string ⟨#[]⟩]] u fun e w' => e = .returned (.tuple #[.int .i64 1, .int .i64 0]) ∧ CO w.heap.size w w.heap.size c21 w' ∧ Only (· = w.heap.size) u w') := fun u hu => (clask_ok hu.c 5 cq21 (by decide) (by decide) (by decide) cq_may (by decide)).mono fun _ _ ⟨he, hc, ho⟩ => ⟨he.trans (congrArg (fun z => Ending.returned (.tuple #[.int .i64 z, .int .i64 0])) cg1), hu.turn hc ho, ho⟩
  have HA2 : Hid (∀ u, CO w.heap.size w w.heap.size c21 u → Calls Try.prog 17 #[.pointer (some ⟨w.heap.size, 0, none⟩), .int .i64 5, .agg #[.int .i64 0, .int .i64 0, .int .i64 4, .int .i64 2, .int .i64 0, .string ⟨#[]⟩]] u fun e w' => e = .returned (.tuple #[.int .i64 0, .int .i64 4]) ∧ CO w.heap.size w w.heap.size c21 w') := fun u hu => (clask_state hu.c 5 cq21 (by decide) (by decide) (by decide) cq_may2 (by decide)).mono fun _ _ ⟨he, hb⟩ => ⟨he, hu.on (hb.mono (Nat.le_refl _))⟩
  have HT1 : Hid (∀ u, CO w.heap.size w w.heap.size c21 u → Calls Try.prog 19 #[.pointer (some ⟨w.heap.size, 0, none⟩), .int .i64 12] u fun e w' => e = .returned (.tuple #[.int .i64 (-1), .bool false]) ∧ CO w.heap.size w w.heap.size c21 w') := fun u hu => (cltick_no hu.c 12 (by decide) c21_no).mono fun _ _ ⟨he, hb⟩ => ⟨he, hu.on hb⟩
  have HT2 : Hid (∀ u, CO w.heap.size w w.heap.size c21 u → Calls Try.prog 19 #[.pointer (some ⟨w.heap.size, 0, none⟩), .int .i64 13] u fun e w' => e = .returned (.tuple #[.int .i64 2, .bool true]) ∧ CO w.heap.size w w.heap.size (c21.tryAt 13) w') := fun u hu => (cltick_yes hu.c 13 (by decide) c21_yes (by decide)).mono fun _ _ ⟨he, hc, ho⟩ => ⟨he.trans (congrArg (fun z => Ending.returned (.tuple #[.int .i64 z, .bool true])) cg2), hu.turn hc ho⟩
  have HP : Hid (∀ u, CO w.heap.size w w.heap.size (c21.tryAt 13) u → Calls Try.prog 26 #[.pointer (some ⟨w.heap.size, 0, none⟩)] u fun e w' => e = .returned (.tuple #[.agg #[.int .i64 1, .int .i64 1, .int .i64 4, .int .i64 2, .int .i64 0, .string ⟨#[]⟩], .bool true]) ∧ CO w.heap.size w w.heap.size (c21.tryAt 13) w') := fun u hu => (clpending_r hu.c true (by show _ = _; decide)).mono fun _ _ ⟨he, hb⟩ => ⟨he, hu.on hb⟩
  have HR1 : Hid (∀ u, CO w.heap.size w w.heap.size (c21.tryAt 13) u → Calls Try.prog 20 #[.pointer (some ⟨w.heap.size, 0, none⟩)] u fun e w' => e = .returned (.int .i64 2) ∧ u = w') := fun u hu => cltries_r hu.c
  have HN1 : Hid (∀ u, CO w.heap.size w w.heap.size (c21.tryAt 13) u → Calls Try.prog 24 #[.pointer (some ⟨w.heap.size, 0, none⟩), .int .i64 2] u fun e w' => e = .returned (.bool false) ∧ u = w') := fun u hu => clanswer_no hu.c 2 c22_no
  have HN2 : Hid (∀ u, CO w.heap.size w w.heap.size (c21.tryAt 13) u → Calls Try.prog 24 #[.pointer (some ⟨w.heap.size, 0, none⟩), .int .i64 1] u fun e w' => e = .returned (.bool true) ∧ CO w.heap.size w w.heap.size (c21.tryAt 13).rest w') := fun u hu => (clanswer_yes hu.c 1 c22_yes).mono fun _ _ ⟨he, hc, ho⟩ => ⟨he, hu.turn hc ho⟩
  have HR2 : Hid (∀ u, CO w.heap.size w w.heap.size (c21.tryAt 13).rest u → Calls Try.prog 20 #[.pointer (some ⟨w.heap.size, 0, none⟩)] u fun e w' => e = .returned (.int .i64 0) ∧ u = w') := fun u hu => cltries_r hu.c
  have HS2 : Hid (∀ u, CO w.heap.size w w.heap.size (c21.tryAt 13).rest u → Calls Try.prog 27 #[.pointer (some ⟨w.heap.size, 0, none⟩)] u fun e w' => e = .returned (.int .i64 1) ∧ u = w') := fun u hu => clseq_r hu.c
  go_enter Try.func15, Try.ntmps15
  go_wp2_with fail
  with_reducible refine HNew.out.mono ?_
  rintro e w1 ⟨rfl, k1⟩
  have K1 := Lib.hid k1
  have q1 : RqAt (w1.alloc (.cells #[.int .i64 0, .int .i64 0, .int .i64 4, .int .i64 2, .int .i64 0, .string ⟨#[]⟩] 33)) w1.heap.size cq21 := RqAt.new w1 cq21
  have K2 : Hid (CO w.heap.size w w.heap.size (newCli 1 3) (w1.alloc (.cells #[.int .i64 0, .int .i64 0, .int .i64 4, .int .i64 2, .int .i64 0, .string ⟨#[]⟩] 33))) := k1.on ((Below.refl _ _).alloc (Nat.le_refl _) _)
  have Q1 := Lib.hid q1
  have hne : w1.heap.size ≠ w.heap.size := by have := k1.c.lt; omega
  have HNE := Lib.hid hne
  clear k1 q1 HNew hne K1
  go_wp2_with fail
  with_reducible refine (HBad.out _).mono ?_
  rintro e w2 ⟨rfl, rfl⟩
  clear HBad
  go_wp2_with fail
  with_reducible refine (HA1.out _ K2.out).mono ?_
  rintro e w2 ⟨rfl, k3, o3⟩
  have K3 := Lib.hid k3
  have Q3 := Lib.hid (Q1.out.turn o3 HNE.out)
  clear k3 o3 K2 Q1 HA1
  obtain ⟨c0, c1, c2, c3, c4, c5⟩ := Q3.out.cells
  simp only [cq21] at c0 c1 c2 c3 c4 c5
  go_wp2_with fail
  with_reducible refine (HA2.out _ K3.out).mono ?_
  rintro e w3 ⟨rfl, k4⟩
  have K4 := Lib.hid k4
  clear k4 K3 HA2 c0 c1 c2 c3 c4 c5 Q3
  go_wp2_with fail
  with_reducible refine (HT1.out _ K4.out).mono ?_
  rintro e w4 ⟨rfl, k5⟩
  have K5 := Lib.hid k5
  clear k5 K4 HT1
  go_wp2_with fail
  with_reducible refine (HT2.out _ K5.out).mono ?_
  rintro e w5 ⟨rfl, k6⟩
  have K6 := Lib.hid k6
  clear k6 K5 HT2
  go_wp2_with fail
  with_reducible refine (HP.out _ K6.out).mono ?_
  rintro e w6 ⟨rfl, k7⟩
  have K7 := Lib.hid (k7.on ((Below.refl _ _).alloc (Nat.le_refl _) (.cells #[.int .i64 1, .int .i64 1, .int .i64 4, .int .i64 2, .int .i64 0, .string ⟨#[]⟩] 33)))
  clear k7 K6 HP
  go_wp2_with fail
  with_reducible refine (HR1.out _ K7.out).mono ?_
  rintro e w7 ⟨rfl, rfl⟩
  clear HR1
  go_wp2_with fail
  with_reducible refine (HN1.out _ K7.out).mono ?_
  rintro e w7 ⟨rfl, rfl⟩
  clear HN1
  go_wp2_with fail
  with_reducible refine (HN2.out _ K7.out).mono ?_
  rintro e w7 ⟨rfl, k8⟩
  have K8 := Lib.hid k8
  clear k8 K7 HN2
  go_wp2_with fail
  with_reducible refine (HR2.out _ K8.out).mono ?_
  rintro e w8 ⟨rfl, rfl⟩
  clear HR2
  go_wp2_with fail
  with_reducible refine (HS2.out _ K8.out).mono ?_
  rintro e w8 ⟨rfl, rfl⟩
  clear HS2
  have HB := Lib.hid K8.out.bel
  go_wp2
  go_returns
  exact ⟨by first | rfl | (simp; done), HB.out⟩
end Go.Proofs.Ytpcbpimlakehcaa
