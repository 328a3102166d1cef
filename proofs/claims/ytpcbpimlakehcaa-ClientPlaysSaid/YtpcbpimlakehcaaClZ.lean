/-
  A CLIENT's Ask, by contract. No condition but that its numbers are such as a client has.
-/
import Derived.Test.YtpcbpimlakehcaaClY
import Derived.BigRegion
namespace Go.Proofs.Ytpcbpimlakehcaa
open Go.RowKit

/-- The request as the client numbers it. -/
def askQ (s : CliV) (q : ReqV) : ReqV := ⟨(s.id : Int), ((s.seq + 1 : Nat) : Int), q.kind, q.id, q.mtch, q.data⟩
/-- The client behind it. -/
def CliV.ask (s : CliV) (now : Int) (q : ReqV) : CliV := { s with seq := s.seq + 1, q := askQ s q, asked := now, tries := 1 }
def CliV.put (s : CliV) (q : ReqV) : CliV := { s with seq := s.seq + 1, q := askQ s q, asked := 0, tries := 0 }
theorem CliV.ask_ok {s : CliV} (h : s.ok) {now : Int} (h0 : 0 ≤ now) (h1 : now ≤ 1099511627776) {q : ReqV} (hm : (askQ s q).may) : (s.ask now q).ok := by
  have hs := hm.2.2.2.1
  refine ⟨h.id4, h.n1, h.n5, ?_, h0, ?_, ?_, h.ep0, h.ep1, h.ln, fun e => absurd (show (1 : Nat) = 0 from e) (by omega), fun _ => ⟨hm, rfl, rfl⟩⟩
  · show s.seq + 1 ≤ _
    have : (askQ s q).seq = ((s.seq + 1 : Nat) : Int) := rfl
    omega
  · show now ≤ _
    omega
  · show (1 : Nat) ≤ _
    omega
def pndL (s : CliV) (q : ReqV) : List Value := [.int .i64 s.id, .int .i64 ((s.seq + 1 : Nat) : Int), .int .i64 q.kind, .int .i64 q.id, .int .i64 q.mtch, .string q.data, .int .i64 0, .int .i64 0]
theorem set_pnd (s : CliV) (kv : Value) (q : ReqV) : setL ((cliCells s kv).setIfInBounds 2 (.int .i64 ((s.seq + 1 : Nat) : Int))) 5 (pndL s q) = cliCells (s.put q) kv := by simp [setL, cliCells, pndL, CliV.put, askQ]
theorem CliB.puts {w : World} {b : Nat} {s : CliV} (H : CliB w b s) (q : ReqV) :
    CliB (storedL (w.setCell ⟨b, 2, none⟩ (.int .i64 ((s.seq + 1 : Nat) : Int))) b 5 (pndL s q)) b (s.put q) ∧ Only (· = b) w (storedL (w.setCell ⟨b, 2, none⟩ (.int .i64 ((s.seq + 1 : Nat) : Int))) b 5 (pndL s q)) := by
  obtain ⟨kv, h, hr⟩ := H
  have ho := (Only.set b 2 w (.int .i64 ((s.seq + 1 : Nat) : Int))).trans (storedL_only (R := b) (pndL s q) 5 _)
  have e0 : (w.setCell ⟨b, 2, none⟩ (.int .i64 ((s.seq + 1 : Nat) : Int))).heap[b]? = some (.cells ((cliCells s kv).setIfInBounds 2 (.int .i64 ((s.seq + 1 : Nat) : Int))) 91 (0, 0)) := by rw [heap_setCell_same _ _ _ _ _ _ h]
  have e := storedL_heap (pndL s q) 5 _ _ e0
  rw [set_pnd s kv q] at e
  exact ⟨⟨kv, e, hr.beside h cli_ty ho⟩, ho⟩

set_option maxRecDepth 100000 in
set_option maxHeartbeats 2000000 in
theorem clask_time {w : World} {b : Nat} {s : CliV} (H : Cli w b s) (now : Int) (q : ReqV) (h : now < 0 ∨ 1099511627776 < now) :
    Calls Try.prog 17 #[.pointer (some ⟨b, 0, none⟩), .int .i64 now, q.val] w fun e w' => e = .returned (.tuple #[.int .i64 0, .int .i64 1]) ∧ Below w.heap.size w w' := by
  obtain ⟨cl, sq, kd, id, mt, dt⟩ := q
  simp only [ReqV.val]
  have hb1 : Below w.heap.size w (w.alloc (.cells #[.int .i64 cl, .int .i64 sq, .int .i64 kd, .int .i64 id, .int .i64 mt, .string dt] 33)) := (Below.refl _ w).alloc (Nat.le_refl _) _
  obtain ⟨W1, hW1⟩ : ∃ W1, W1 = w.alloc (.cells #[.int .i64 cl, .int .i64 sq, .int .i64 kd, .int .i64 id, .int .i64 mt, .string dt] 33) := ⟨_, rfl⟩
  have hq1 : W1.heap[w.heap.size]? = some (.cells #[.int .i64 cl, .int .i64 sq, .int .i64 kd, .int .i64 id, .int .i64 mt, .string dt] 33 (0, 0)) := by rw [hW1]; exact heap_alloc_new w _
  rw [← hW1] at hb1
  have H1 := H.on hb1
  have HMd := Lib.hid (clmade_r H1)
  have HW := Lib.hid hW1
  have HB := Lib.hid hb1
  clear H H1 hq1 hb1 hW1
  go_enter Try.func17, Try.ntmps17
  rcases h with h | h
  · go_wp2_with fail
    rw [← HW.out]
    with_reducible refine HMd.out.mono ?_
    rintro e w1 ⟨rfl, rfl⟩
    clear HW
    go_wp2
    go_returns
    exact ⟨rfl, HB.out⟩
  · have h0 : ¬ now < 0 := by omega
    go_wp2_with fail
    rw [← HW.out]
    with_reducible refine HMd.out.mono ?_
    rintro e w1 ⟨rfl, rfl⟩
    clear HW
    go_wp2
    go_returns
    exact ⟨rfl, HB.out⟩

set_option maxRecDepth 100000 in
set_option maxHeartbeats 2000000 in
theorem clask_arg {w : World} {b : Nat} {s : CliV} (H : Cli w b s) (now : Int) (q : ReqV) (h0 : 0 ≤ now) (h1 : now ≤ 1099511627776) (hs : q.data.size ≤ 9223372036854775807) (hm : ¬ (askQ s q).may) :
    Calls Try.prog 17 #[.pointer (some ⟨b, 0, none⟩), .int .i64 now, q.val] w fun e w' => e = .returned (.tuple #[.int .i64 0, .int .i64 1]) ∧ Below w.heap.size w w' := by
  obtain ⟨cl, sq, kd, id, mt, dt⟩ := q
  simp only [ReqV.val]
  have hb1 : Below w.heap.size w (w.alloc (.cells #[.int .i64 cl, .int .i64 sq, .int .i64 kd, .int .i64 id, .int .i64 mt, .string dt] 33)) := (Below.refl _ w).alloc (Nat.le_refl _) _
  obtain ⟨W1, hW1⟩ : ∃ W1, W1 = w.alloc (.cells #[.int .i64 cl, .int .i64 sq, .int .i64 kd, .int .i64 id, .int .i64 mt, .string dt] 33) := ⟨_, rfl⟩
  have hq1 : W1.heap[w.heap.size]? = some (.cells #[.int .i64 cl, .int .i64 sq, .int .i64 kd, .int .i64 id, .int .i64 mt, .string dt] 33 (0, 0)) := by rw [hW1]; exact heap_alloc_new w _
  rw [← hW1] at hb1
  have H1 := H.on hb1
  have HMd := Lib.hid (clmade_r H1)
  have HW := Lib.hid hW1
  have hlt := H.lt
  have hne : ¬ w.heap.size = b := by omega
  have hne2 : ¬ b = w.heap.size := by omega
  have h0' : ¬ now < 0 := by omega
  have h1' : ¬ 1099511627776 < now := by omega
  have hsq := H.ok.sq
  obtain ⟨n2, hn2⟩ : ∃ n2, n2 = s.seq + 1 := ⟨_, rfl⟩
  have HN : Hid ((s.seq : Int) + 1 = ((n2 : Nat) : Int)) := by show _ = _; omega
  -- the box behind the two stores
  have ob : Only (· = w.heap.size) W1 ((W1.setCell ⟨w.heap.size, 0, none⟩ (.int .i64 s.id)).setCell ⟨w.heap.size, 1, none⟩ (.int .i64 (n2 : Int))) := (Only.set _ _ _ _).trans (Only.set _ _ _ _)
  have hq2 : ((W1.setCell ⟨w.heap.size, 0, none⟩ (.int .i64 s.id)).setCell ⟨w.heap.size, 1, none⟩ (.int .i64 (n2 : Int))).heap[w.heap.size]? = some (.cells #[.int .i64 s.id, .int .i64 (n2 : Int), .int .i64 kd, .int .i64 id, .int .i64 mt, .string dt] 33 (0, 0)) := by
    rw [heap_setCell_same _ _ _ _ _ _ (heap_setCell_same _ _ _ _ _ _ hq1)]; rfl
  have hb2 : Below w.heap.size w ((W1.setCell ⟨w.heap.size, 0, none⟩ (.int .i64 s.id)).setCell ⟨w.heap.size, 1, none⟩ (.int .i64 (n2 : Int))) := ob.below hb1 (fun _ h => h ▸ Nat.le_refl _) hb1.size
  have H2 : Cli ((W1.setCell ⟨w.heap.size, 0, none⟩ (.int .i64 s.id)).setCell ⟨w.heap.size, 1, none⟩ (.int .i64 (n2 : Int))) b s := H1.keep ob (by omega) (fun k cs hk e => by
    subst e
    rw [hq1] at hk
    simp only [Option.some.injEq, Obj.cells.injEq] at hk
    exact absurd hk.2.1 (by decide))
  obtain ⟨kv, hb, -⟩ := H1.blk
  obtain ⟨c0, -, c2, -⟩ := Cli.cells hb
  have y0 : W1.cell? ⟨w.heap.size, 0, none⟩ = some (.int .i64 cl) := by simp [World.cell?, hq1]
  have y1 : W1.cell? ⟨w.heap.size, 1, none⟩ = some (.int .i64 sq) := by simp [World.cell?, hq1]
  have z0 : W1.frozen? ⟨w.heap.size, 0, none⟩ = false := by simp [World.frozen?, hq1]
  have z1 : W1.frozen? ⟨w.heap.size, 1, none⟩ = false := by simp [World.frozen?, hq1]
  have HQ3 : Hid (((W1.setCell ⟨w.heap.size, 0, none⟩ (.int .i64 s.id)).setCell ⟨w.heap.size, 1, none⟩ (.int .i64 (n2 : Int))).drew.heap[w.heap.size]? = some (.cells #[.int .i64 s.id, .int .i64 (n2 : Int), .int .i64 kd, .int .i64 id, .int .i64 mt, .string dt] 33 (0, 0))) := hq2
  have HC3 : Hid (Cli ((W1.setCell ⟨w.heap.size, 0, none⟩ (.int .i64 s.id)).setCell ⟨w.heap.size, 1, none⟩ (.int .i64 (n2 : Int))).drew b s) := H2.drew
  have HB3 : Hid (Below w.heap.size w ((W1.setCell ⟨w.heap.size, 0, none⟩ (.int .i64 s.id)).setCell ⟨w.heap.size, 1, none⟩ (.int .i64 (n2 : Int))).drew) := hb2.drew
  obtain ⟨W2, hW2⟩ : ∃ W2, W2 = ((W1.setCell ⟨w.heap.size, 0, none⟩ (.int .i64 s.id)).setCell ⟨w.heap.size, 1, none⟩ (.int .i64 (n2 : Int))).drew := ⟨_, rfl⟩
  rw [← hW2] at HQ3 HC3 HB3
  have HW2 := Lib.hid hW2
  have HD : Hid (∀ u, Below W2.heap.size W2 u → u.cell? ⟨w.heap.size, 0, none⟩ = some (.int .i64 s.id) ∧ u.cell? ⟨w.heap.size, 1, none⟩ = some (.int .i64 (n2 : Int)) ∧ u.cell? ⟨w.heap.size, 2, none⟩ = some (.int .i64 kd) ∧ u.cell? ⟨w.heap.size, 3, none⟩ = some (.int .i64 id) ∧ u.cell? ⟨w.heap.size, 4, none⟩ = some (.int .i64 mt) ∧ u.cell? ⟨w.heap.size, 5, none⟩ = some (.string dt)) := fun u hu => by
    have h := (hu.block _ (lt_of_block HQ3.out)).trans HQ3.out
    exact ⟨by simp [World.cell?, h], by simp [World.cell?, h], by simp [World.cell?, h], by simp [World.cell?, h], by simp [World.cell?, h], by simp [World.cell?, h]⟩
  have HLT := Lib.hid hlt
  have HMay : Hid (∀ u, Calls Try.prog 53 #[.agg #[.int .i64 s.id, .int .i64 (n2 : Int), .int .i64 kd, .int .i64 id, .int .i64 mt, .string dt]] u fun e w' => e = .returned (.bool false) ∧ Below u.heap.size u w') := fun u => mayreq_r s.id n2 kd id mt dt hs false (by rw [hn2]; exact (decide_eq_false hm).symm) u
  clear H H1 H2 hq1 hq2 hb1 hb2 hb hW1 hn2 hm hlt ob h0 h1 hs HC3 hW2
  go_enter Try.func17, Try.ntmps17
  go_wp2_with fail
  rw [← HW.out]
  with_reducible refine HMd.out.mono ?_
  rintro e w1 ⟨rfl, rfl⟩
  clear HW HMd
  go_wp2_with fail
  go_region
  all_goals
    rw [HN.out, ← HW2.out]
    clear c0 c2 y0 y1 z0 z1 HN HW2
    obtain ⟨d0, d1, d2, d3, d4, d5⟩ := HD.out W2 (Below.refl _ _)
    go_wp2_with fail
    with_reducible refine (HMay.out _).mono ?_
    rintro e w3 ⟨rfl, B3⟩
    have HB4 := Lib.hid (HB3.out.trans (B3.mono HB3.out.size))
    clear B3 d0 d1 d2 d3 d4 d5
    go_wp2
    go_returns
    exact ⟨rfl, HB4.out⟩

set_option maxRecDepth 100000 in
set_option maxHeartbeats 2000000 in
theorem clask_state {w : World} {b : Nat} {s : CliV} (H : Cli w b s) (now : Int) (q : ReqV) (h0 : 0 ≤ now) (h1 : now ≤ 1099511627776) (hs : q.data.size ≤ 9223372036854775807) (hm : (askQ s q).may) (ht : 0 < s.tries) :
    Calls Try.prog 17 #[.pointer (some ⟨b, 0, none⟩), .int .i64 now, q.val] w fun e w' => e = .returned (.tuple #[.int .i64 0, .int .i64 4]) ∧ Below w.heap.size w w' := by
  obtain ⟨cl, sq, kd, id, mt, dt⟩ := q
  simp only [ReqV.val]
  have hb1 : Below w.heap.size w (w.alloc (.cells #[.int .i64 cl, .int .i64 sq, .int .i64 kd, .int .i64 id, .int .i64 mt, .string dt] 33)) := (Below.refl _ w).alloc (Nat.le_refl _) _
  obtain ⟨W1, hW1⟩ : ∃ W1, W1 = w.alloc (.cells #[.int .i64 cl, .int .i64 sq, .int .i64 kd, .int .i64 id, .int .i64 mt, .string dt] 33) := ⟨_, rfl⟩
  have hq1 : W1.heap[w.heap.size]? = some (.cells #[.int .i64 cl, .int .i64 sq, .int .i64 kd, .int .i64 id, .int .i64 mt, .string dt] 33 (0, 0)) := by rw [hW1]; exact heap_alloc_new w _
  rw [← hW1] at hb1
  have H1 := H.on hb1
  have HMd := Lib.hid (clmade_r H1)
  have HW := Lib.hid hW1
  have hlt := H.lt
  have hne : ¬ w.heap.size = b := by omega
  have hne2 : ¬ b = w.heap.size := by omega
  have h0' : ¬ now < 0 := by omega
  have h1' : ¬ 1099511627776 < now := by omega
  have hsq := H.ok.sq
  obtain ⟨n2, hn2⟩ : ∃ n2, n2 = s.seq + 1 := ⟨_, rfl⟩
  have HN : Hid ((s.seq : Int) + 1 = ((n2 : Nat) : Int)) := by show _ = _; omega
  -- the box behind the two stores
  have ob : Only (· = w.heap.size) W1 ((W1.setCell ⟨w.heap.size, 0, none⟩ (.int .i64 s.id)).setCell ⟨w.heap.size, 1, none⟩ (.int .i64 (n2 : Int))) := (Only.set _ _ _ _).trans (Only.set _ _ _ _)
  have hq2 : ((W1.setCell ⟨w.heap.size, 0, none⟩ (.int .i64 s.id)).setCell ⟨w.heap.size, 1, none⟩ (.int .i64 (n2 : Int))).heap[w.heap.size]? = some (.cells #[.int .i64 s.id, .int .i64 (n2 : Int), .int .i64 kd, .int .i64 id, .int .i64 mt, .string dt] 33 (0, 0)) := by
    rw [heap_setCell_same _ _ _ _ _ _ (heap_setCell_same _ _ _ _ _ _ hq1)]; rfl
  have hb2 : Below w.heap.size w ((W1.setCell ⟨w.heap.size, 0, none⟩ (.int .i64 s.id)).setCell ⟨w.heap.size, 1, none⟩ (.int .i64 (n2 : Int))) := ob.below hb1 (fun _ h => h ▸ Nat.le_refl _) hb1.size
  have H2 : Cli ((W1.setCell ⟨w.heap.size, 0, none⟩ (.int .i64 s.id)).setCell ⟨w.heap.size, 1, none⟩ (.int .i64 (n2 : Int))) b s := H1.keep ob (by omega) (fun k cs hk e => by
    subst e
    rw [hq1] at hk
    simp only [Option.some.injEq, Obj.cells.injEq] at hk
    exact absurd hk.2.1 (by decide))
  obtain ⟨kv, hb, -⟩ := H1.blk
  obtain ⟨c0, -, c2, -⟩ := Cli.cells hb
  have y0 : W1.cell? ⟨w.heap.size, 0, none⟩ = some (.int .i64 cl) := by simp [World.cell?, hq1]
  have y1 : W1.cell? ⟨w.heap.size, 1, none⟩ = some (.int .i64 sq) := by simp [World.cell?, hq1]
  have z0 : W1.frozen? ⟨w.heap.size, 0, none⟩ = false := by simp [World.frozen?, hq1]
  have z1 : W1.frozen? ⟨w.heap.size, 1, none⟩ = false := by simp [World.frozen?, hq1]
  have HQ3 : Hid (((W1.setCell ⟨w.heap.size, 0, none⟩ (.int .i64 s.id)).setCell ⟨w.heap.size, 1, none⟩ (.int .i64 (n2 : Int))).drew.heap[w.heap.size]? = some (.cells #[.int .i64 s.id, .int .i64 (n2 : Int), .int .i64 kd, .int .i64 id, .int .i64 mt, .string dt] 33 (0, 0))) := hq2
  have HC3 : Hid (Cli ((W1.setCell ⟨w.heap.size, 0, none⟩ (.int .i64 s.id)).setCell ⟨w.heap.size, 1, none⟩ (.int .i64 (n2 : Int))).drew b s) := H2.drew
  have HB3 : Hid (Below w.heap.size w ((W1.setCell ⟨w.heap.size, 0, none⟩ (.int .i64 s.id)).setCell ⟨w.heap.size, 1, none⟩ (.int .i64 (n2 : Int))).drew) := hb2.drew
  obtain ⟨W2, hW2⟩ : ∃ W2, W2 = ((W1.setCell ⟨w.heap.size, 0, none⟩ (.int .i64 s.id)).setCell ⟨w.heap.size, 1, none⟩ (.int .i64 (n2 : Int))).drew := ⟨_, rfl⟩
  rw [← hW2] at HQ3 HC3 HB3
  have HW2 := Lib.hid hW2
  have HD : Hid (∀ u, Below W2.heap.size W2 u → u.cell? ⟨w.heap.size, 0, none⟩ = some (.int .i64 s.id) ∧ u.cell? ⟨w.heap.size, 1, none⟩ = some (.int .i64 (n2 : Int)) ∧ u.cell? ⟨w.heap.size, 2, none⟩ = some (.int .i64 kd) ∧ u.cell? ⟨w.heap.size, 3, none⟩ = some (.int .i64 id) ∧ u.cell? ⟨w.heap.size, 4, none⟩ = some (.int .i64 mt) ∧ u.cell? ⟨w.heap.size, 5, none⟩ = some (.string dt)) := fun u hu => by
    have h := (hu.block _ (lt_of_block HQ3.out)).trans HQ3.out
    exact ⟨by simp [World.cell?, h], by simp [World.cell?, h], by simp [World.cell?, h], by simp [World.cell?, h], by simp [World.cell?, h], by simp [World.cell?, h]⟩
  have HLT := Lib.hid hlt
  have HMay : Hid (∀ u, Calls Try.prog 53 #[.agg #[.int .i64 s.id, .int .i64 (n2 : Int), .int .i64 kd, .int .i64 id, .int .i64 mt, .string dt]] u fun e w' => e = .returned (.bool true) ∧ Below u.heap.size u w') := fun u => mayreq_r s.id n2 kd id mt dt hs true (by rw [hn2]; exact (decide_eq_true hm).symm) u
  have HWt : Hid (∀ u, Cli u b s → Calls Try.prog 54 #[.pointer (some ⟨b, 0, none⟩)] u fun e w' => e = .returned (.bool true) ∧ u = w') := fun u hu => clwaits_r hu true (decide_eq_true ht)
  clear H H1 H2 hq1 hq2 hb1 hb2 hb hW1 hn2 hm hlt ob h0 h1 hs hW2 ht
  go_enter Try.func17, Try.ntmps17
  go_wp2_with fail
  rw [← HW.out]
  with_reducible refine HMd.out.mono ?_
  rintro e w1 ⟨rfl, rfl⟩
  clear HW HMd
  go_wp2_with fail
  go_region
  all_goals
    rw [HN.out, ← HW2.out]
    clear c0 c2 y0 y1 z0 z1 HN HW2
    obtain ⟨d0, d1, d2, d3, d4, d5⟩ := HD.out W2 (Below.refl _ _)
    go_wp2_with fail
    with_reducible refine (HMay.out _).mono ?_
    rintro e w3 ⟨rfl, b3⟩
    have B3 := Lib.hid b3
    clear b3 d0 d1 d2 d3 d4 d5
    have HB4 := Lib.hid (HB3.out.trans (B3.out.mono HB3.out.size))
    have HX := Lib.hid (HWt.out w3 (HC3.out.on B3.out))
    go_wp2_with fail
    with_reducible refine HX.out.mono ?_
    rintro e w4 ⟨rfl, rfl⟩
    clear HX HWt
    go_wp2
    go_returns
    exact ⟨rfl, HB4.out⟩

set_option maxRecDepth 100000 in
set_option maxHeartbeats 2000000 in
theorem clask_ok {w : World} {b : Nat} {s : CliV} (H : Cli w b s) (now : Int) (q : ReqV) (h0 : 0 ≤ now) (h1 : now ≤ 1099511627776) (hs : q.data.size ≤ 9223372036854775807) (hm : (askQ s q).may) (ht : ¬ 0 < s.tries) :
    Calls Try.prog 17 #[.pointer (some ⟨b, 0, none⟩), .int .i64 now, q.val] w fun e w' => e = .returned (.tuple #[.int .i64 (targV s.L s.n 1 (wrQ q)), .int .i64 0]) ∧ Cli w' b (s.ask now q) ∧ Only (· = b) w w' := by
  obtain ⟨cl, sq, kd, id, mt, dt⟩ := q
  simp only [ReqV.val]
  have hb1 : Below w.heap.size w (w.alloc (.cells #[.int .i64 cl, .int .i64 sq, .int .i64 kd, .int .i64 id, .int .i64 mt, .string dt] 33)) := (Below.refl _ w).alloc (Nat.le_refl _) _
  obtain ⟨W1, hW1⟩ : ∃ W1, W1 = w.alloc (.cells #[.int .i64 cl, .int .i64 sq, .int .i64 kd, .int .i64 id, .int .i64 mt, .string dt] 33) := ⟨_, rfl⟩
  have hq1 : W1.heap[w.heap.size]? = some (.cells #[.int .i64 cl, .int .i64 sq, .int .i64 kd, .int .i64 id, .int .i64 mt, .string dt] 33 (0, 0)) := by rw [hW1]; exact heap_alloc_new w _
  rw [← hW1] at hb1
  have H1 := H.on hb1
  have HMd := Lib.hid (clmade_r H1)
  have HW := Lib.hid hW1
  have hlt := H.lt
  have hne : ¬ w.heap.size = b := by omega
  have hne2 : ¬ b = w.heap.size := by omega
  have h0' : ¬ now < 0 := by omega
  have h1' : ¬ 1099511627776 < now := by omega
  have hsq := H.ok.sq
  obtain ⟨n2, hn2⟩ : ∃ n2, n2 = s.seq + 1 := ⟨_, rfl⟩
  have HN : Hid ((s.seq : Int) + 1 = ((n2 : Nat) : Int)) := by show _ = _; omega
  -- the box behind the two stores
  have ob : Only (· = w.heap.size) W1 ((W1.setCell ⟨w.heap.size, 0, none⟩ (.int .i64 s.id)).setCell ⟨w.heap.size, 1, none⟩ (.int .i64 (n2 : Int))) := (Only.set _ _ _ _).trans (Only.set _ _ _ _)
  have hq2 : ((W1.setCell ⟨w.heap.size, 0, none⟩ (.int .i64 s.id)).setCell ⟨w.heap.size, 1, none⟩ (.int .i64 (n2 : Int))).heap[w.heap.size]? = some (.cells #[.int .i64 s.id, .int .i64 (n2 : Int), .int .i64 kd, .int .i64 id, .int .i64 mt, .string dt] 33 (0, 0)) := by
    rw [heap_setCell_same _ _ _ _ _ _ (heap_setCell_same _ _ _ _ _ _ hq1)]; rfl
  have hb2 : Below w.heap.size w ((W1.setCell ⟨w.heap.size, 0, none⟩ (.int .i64 s.id)).setCell ⟨w.heap.size, 1, none⟩ (.int .i64 (n2 : Int))) := ob.below hb1 (fun _ h => h ▸ Nat.le_refl _) hb1.size
  have H2 : Cli ((W1.setCell ⟨w.heap.size, 0, none⟩ (.int .i64 s.id)).setCell ⟨w.heap.size, 1, none⟩ (.int .i64 (n2 : Int))) b s := H1.keep ob (by omega) (fun k cs hk e => by
    subst e
    rw [hq1] at hk
    simp only [Option.some.injEq, Obj.cells.injEq] at hk
    exact absurd hk.2.1 (by decide))
  obtain ⟨kv, hb, -⟩ := H1.blk
  obtain ⟨c0, -, c2, -⟩ := Cli.cells hb
  have y0 : W1.cell? ⟨w.heap.size, 0, none⟩ = some (.int .i64 cl) := by simp [World.cell?, hq1]
  have y1 : W1.cell? ⟨w.heap.size, 1, none⟩ = some (.int .i64 sq) := by simp [World.cell?, hq1]
  have z0 : W1.frozen? ⟨w.heap.size, 0, none⟩ = false := by simp [World.frozen?, hq1]
  have z1 : W1.frozen? ⟨w.heap.size, 1, none⟩ = false := by simp [World.frozen?, hq1]
  have HQ3 : Hid (((W1.setCell ⟨w.heap.size, 0, none⟩ (.int .i64 s.id)).setCell ⟨w.heap.size, 1, none⟩ (.int .i64 (n2 : Int))).drew.heap[w.heap.size]? = some (.cells #[.int .i64 s.id, .int .i64 (n2 : Int), .int .i64 kd, .int .i64 id, .int .i64 mt, .string dt] 33 (0, 0))) := hq2
  have HC3 : Hid (Cli ((W1.setCell ⟨w.heap.size, 0, none⟩ (.int .i64 s.id)).setCell ⟨w.heap.size, 1, none⟩ (.int .i64 (n2 : Int))).drew b s) := H2.drew
  have HB3 : Hid (Below w.heap.size w ((W1.setCell ⟨w.heap.size, 0, none⟩ (.int .i64 s.id)).setCell ⟨w.heap.size, 1, none⟩ (.int .i64 (n2 : Int))).drew) := hb2.drew
  obtain ⟨W2, hW2⟩ : ∃ W2, W2 = ((W1.setCell ⟨w.heap.size, 0, none⟩ (.int .i64 s.id)).setCell ⟨w.heap.size, 1, none⟩ (.int .i64 (n2 : Int))).drew := ⟨_, rfl⟩
  rw [← hW2] at HQ3 HC3 HB3
  have HW2 := Lib.hid hW2
  have HD : Hid (∀ u, Below W2.heap.size W2 u → u.cell? ⟨w.heap.size, 0, none⟩ = some (.int .i64 s.id) ∧ u.cell? ⟨w.heap.size, 1, none⟩ = some (.int .i64 (n2 : Int)) ∧ u.cell? ⟨w.heap.size, 2, none⟩ = some (.int .i64 kd) ∧ u.cell? ⟨w.heap.size, 3, none⟩ = some (.int .i64 id) ∧ u.cell? ⟨w.heap.size, 4, none⟩ = some (.int .i64 mt) ∧ u.cell? ⟨w.heap.size, 5, none⟩ = some (.string dt)) := fun u hu => by
    have h := (hu.block _ (lt_of_block HQ3.out)).trans HQ3.out
    exact ⟨by simp [World.cell?, h], by simp [World.cell?, h], by simp [World.cell?, h], by simp [World.cell?, h], by simp [World.cell?, h], by simp [World.cell?, h]⟩
  have HLT := Lib.hid hlt
  have HMay : Hid (∀ u, Calls Try.prog 53 #[.agg #[.int .i64 s.id, .int .i64 (n2 : Int), .int .i64 kd, .int .i64 id, .int .i64 mt, .string dt]] u fun e w' => e = .returned (.bool true) ∧ Below u.heap.size u w') := fun u => mayreq_r s.id n2 kd id mt dt hs true (by rw [hn2]; exact (decide_eq_true hm).symm) u
  have HWt : Hid (∀ u, Cli u b s → Calls Try.prog 54 #[.pointer (some ⟨b, 0, none⟩)] u fun e w' => e = .returned (.bool false) ∧ u = w') := fun u hu => clwaits_r hu false (decide_eq_false ht)
  have HOK : Hid (s.ask now ⟨cl, sq, kd, id, mt, dt⟩).ok := CliV.ask_ok H.ok h0 h1 hm
  have HTr : Hid (∀ u, CliB u b (s.put ⟨cl, sq, kd, id, mt, dt⟩) → Calls Try.prog 55 #[.pointer (some ⟨b, 0, none⟩), .int .i64 now] u fun e w' => e = .returned (.int .i64 (targV s.L s.n 1 (wrQ ⟨cl, sq, kd, id, mt, dt⟩))) ∧ CliB w' b (s.ask now ⟨cl, sq, kd, id, mt, dt⟩) ∧ Only (· = b) u w') := fun u hu => cltry_r hu now H.ok.n1 H.ok.n5 (Nat.zero_le _)
  generalize targV s.L s.n 1 (wrQ ⟨cl, sq, kd, id, mt, dt⟩) = T at HTr ⊢
  have HPL : Hid (pndL s ⟨cl, sq, kd, id, mt, dt⟩ = [.int .i64 s.id, .int .i64 (n2 : Int), .int .i64 kd, .int .i64 id, .int .i64 mt, .string dt, .int .i64 0, .int .i64 0]) := by rw [hn2]; rfl
  have HN2 := Lib.hid hn2
  clear H H1 H2 hq1 hq2 hb1 hb2 hb hW1 hn2 hm hlt ob h0 h1 hs hW2 ht
  go_enter Try.func17, Try.ntmps17
  go_wp2_with fail
  rw [← HW.out]
  with_reducible refine HMd.out.mono ?_
  rintro e w1 ⟨rfl, rfl⟩
  clear HW HMd
  go_wp2_with fail
  go_region
  all_goals
    rw [HN.out, ← HW2.out]
    clear c0 c2 y0 y1 z0 z1 HN HW2
    obtain ⟨d0, d1, d2, d3, d4, d5⟩ := HD.out W2 (Below.refl _ _)
    go_wp2_with fail
    with_reducible refine (HMay.out _).mono ?_
    rintro e w3 ⟨rfl, b3⟩
    have B3 := Lib.hid b3
    clear b3 d0 d1 d2 d3 d4 d5
    have HB4 := Lib.hid (HB3.out.trans (B3.out.mono HB3.out.size))
    have HX := Lib.hid (HWt.out w3 (HC3.out.on B3.out))
    go_wp2_with fail
    with_reducible refine HX.out.mono ?_
    rintro e w4 ⟨rfl, rfl⟩
    clear HX HWt
    obtain ⟨d0, d1, d2, d3, d4, d5⟩ := HD.out w3 B3.out
    have h3 := (HC3.out.on B3.out).blk
    have HP := h3.puts ⟨cl, sq, kd, id, mt, dt⟩
    rw [HPL.out, ← HN2.out] at HP
    simp only [storedL, Nat.reduceAdd] at HP
    have HPP := Lib.hid HP
    obtain ⟨kv, hb, -⟩ := h3
    obtain ⟨-, -, c2, -, -, c5, c6, c7, c8, c9, c10, c11, c12⟩ := Cli.cells hb
    have hf := Cli.free hb
    have f2 := hf 2
    have f5 := hf 5
    have f6 := hf 6
    have f7 := hf 7
    have f8 := hf 8
    have f9 := hf 9
    have f10 := hf 10
    have f11 := hf 11
    have f12 := hf 12
    clear hf hb HP HD HC3 HMay HQ3 HPL HN2
    go_wp2_with fail
    with_reducible refine (HTr.out _ HPP.out.1).mono ?_
    rintro e w5 ⟨rfl, b5, o5⟩
    have B5 := Lib.hid b5
    have O5 : Hid (Only (· = b) w w5) := ((Only.of (S := (· = b)) (HB4.out)).trans HPP.out.2).trans o5
    clear b5 o5 HPP HTr c2 c5 c6 c7 c8 c9 c10 c11 c12 f2 f5 f6 f7 f8 f9 f10 f11 f12 d0 d1 d2 d3 d4 d5
    go_wp2
    go_returns
    exact ⟨rfl, ⟨B5.out, HOK.out⟩, O5.out⟩
end Go.Proofs.Ytpcbpimlakehcaa
