/-
  THE REFERENCE'S CLIENT: Ask, by contract; all its calls as plain functions. No condition but that its numbers are such as a client has.
-/
import Derived.Test.YtpcbpimlakehcaaClQB
import Derived.BigRegion
namespace Go.Proofs.Ytpcbpimlakehcaa
open Go.RowKit

def qsix (s : CliV) (q : ReqV) : List Value := [.int .i64 s.id, .int .i64 ((s.seq + 1 : Nat) : Int), .int .i64 q.kind, .int .i64 q.id, .int .i64 q.mtch, .string q.data]
theorem qset_ask (s : CliV) (a : Int) (kv : Value) (now : Int) (q : ReqV) : ((setL ((qclCells s a kv).setIfInBounds 2 (.int .i64 ((s.seq + 1 : Nat) : Int))) 5 (qsix s q)).setIfInBounds 3 (.int .i64 now)).setIfInBounds 4 (.int .i64 1) = qclCells (s.ask now q) now kv := by simp [setL, qclCells, qsix, CliV.ask, askQ]
def qaskW (w : World) (b : Nat) (s : CliV) (now : Int) (q : ReqV) : World := ((storedL (w.setCell ⟨b, 2, none⟩ (.int .i64 ((s.seq + 1 : Nat) : Int))) b 5 (qsix s q)).setCell ⟨b, 3, none⟩ (.int .i64 now)).setCell ⟨b, 4, none⟩ (.int .i64 1)
theorem QClB.asks {w : World} {b : Nat} {s : CliV} {a : Int} {kv : Value} (h : w.heap[b]? = some (.cells (qclCells s a kv) 42 (0, 0))) (hr : RowI w kv s.L) (now : Int) (q : ReqV) :
    (qaskW w b s now q).heap[b]? = some (.cells (qclCells (s.ask now q) now kv) 42 (0, 0)) ∧ RowI (qaskW w b s now q) kv s.L ∧ Only (· = b) w (qaskW w b s now q) := by
  have ho : Only (· = b) w (qaskW w b s now q) := (((Only.set b 2 w (.int .i64 ((s.seq + 1 : Nat) : Int))).trans (storedL_only (R := b) (qsix s q) 5 _)).trans (Only.set b 3 _ (.int .i64 now))).trans (Only.set b 4 _ (.int .i64 1))
  have e1 : (w.setCell ⟨b, 2, none⟩ (.int .i64 ((s.seq + 1 : Nat) : Int))).heap[b]? = some (.cells ((qclCells s a kv).setIfInBounds 2 (.int .i64 ((s.seq + 1 : Nat) : Int))) 42 (0, 0)) := by rw [heap_setCell_same _ _ _ _ _ _ h]
  have e2 := storedL_heap (qsix s q) 5 _ _ e1
  have e3 : (qaskW w b s now q).heap[b]? = some (.cells (((setL ((qclCells s a kv).setIfInBounds 2 (.int .i64 ((s.seq + 1 : Nat) : Int))) 5 (qsix s q)).setIfInBounds 3 (.int .i64 now)).setIfInBounds 4 (.int .i64 1)) 42 (0, 0)) := by
    unfold qaskW
    rw [heap_setCell_same _ _ _ _ _ _ (heap_setCell_same _ _ _ _ _ _ e2)]
  rw [qset_ask] at e3
  exact ⟨e3, hr.beside h qcli_ty ho, ho⟩

set_option maxRecDepth 100000 in
set_option maxHeartbeats 4000000 in
theorem qclask_far {w : World} {b : Nat} {s : CliV} (H : QClB w b s) (ok : s.ok) (now : Int) (q : ReqV) (hs : q.data.size ≤ 9223372036854775807) (hm : 1073741824 ≤ s.seq) :
    Calls Try.prog 21 #[.pointer (some ⟨b, 0, none⟩), .int .i64 now, q.val] w fun e w' => e = .returned (.tuple #[.int .i64 0, .int .i64 1]) ∧ Below w.heap.size w w' := by
  obtain ⟨cl, sq, kd, ri, mt, dt⟩ := q
  simp only [ReqV.val]
  have hlt := H.lt
  have hsq := ok.sq
  obtain ⟨n2, hn2⟩ : ∃ n2, n2 = s.seq + 1 := ⟨_, rfl⟩
  have HN : Hid ((s.seq : Int) + 1 = ((n2 : Nat) : Int)) := by show _ = _; omega
  have HB0 : Hid (Below w.heap.size w (w.alloc (.cells #[.int .i64 s.id, .int .i64 sq, .int .i64 kd, .int .i64 ri, .int .i64 mt, .string dt] 33))) := (Below.refl _ w).alloc (Nat.le_refl _) _
  have hb2 : Below w.heap.size w (w.alloc (.cells #[.int .i64 s.id, .int .i64 (n2 : Int), .int .i64 kd, .int .i64 ri, .int .i64 mt, .string dt] 33)) := (Below.refl _ w).alloc (Nat.le_refl _) _
  have hq2 : (w.alloc (.cells #[.int .i64 s.id, .int .i64 (n2 : Int), .int .i64 kd, .int .i64 ri, .int .i64 mt, .string dt] 33)).heap[w.heap.size]? = some (.cells #[.int .i64 s.id, .int .i64 (n2 : Int), .int .i64 kd, .int .i64 ri, .int .i64 mt, .string dt] 33 (0, 0)) := heap_alloc_new w _
  have h2 := H.on hb2
  obtain ⟨W2, hW2⟩ : ∃ W2, W2 = w.alloc (.cells #[.int .i64 s.id, .int .i64 (n2 : Int), .int .i64 kd, .int .i64 ri, .int .i64 mt, .string dt] 33) := ⟨_, rfl⟩
  rw [← hW2] at hq2 hb2 h2
  have HQ2 := Lib.hid hq2
  have HB2 := Lib.hid hb2
  have HC2 := Lib.hid h2
  have HW2 := Lib.hid hW2
  have HD : Hid (∀ u, Below W2.heap.size W2 u → u.cell? ⟨w.heap.size, 0, none⟩ = some (.int .i64 s.id) ∧ u.cell? ⟨w.heap.size, 1, none⟩ = some (.int .i64 (n2 : Int)) ∧ u.cell? ⟨w.heap.size, 2, none⟩ = some (.int .i64 kd) ∧ u.cell? ⟨w.heap.size, 3, none⟩ = some (.int .i64 ri) ∧ u.cell? ⟨w.heap.size, 4, none⟩ = some (.int .i64 mt) ∧ u.cell? ⟨w.heap.size, 5, none⟩ = some (.string dt)) := fun u hu => by
    have h := (hu.block _ (lt_of_block HQ2.out)).trans HQ2.out
    exact ⟨by simp [World.cell?, h], by simp [World.cell?, h], by simp [World.cell?, h], by simp [World.cell?, h], by simp [World.cell?, h], by simp [World.cell?, h]⟩
  obtain ⟨a1, kv1, hbb, -⟩ := id H
  obtain ⟨c0, -, c2, -⟩ := QClB.cells hbb
  have hm' : (1073741824 : Int) ≤ (s.seq : Int) := by omega
  clear H h2 hq2 hb2 hbb hW2 hn2 hm HN HQ2 HB2 HC2 HW2 HD
  go_enter Try.func21, Try.ntmps21
  go_wp2_with fail
  go_returns
  exact ⟨rfl, HB0.out⟩

set_option maxRecDepth 100000 in
set_option maxHeartbeats 4000000 in
theorem qclask_arg {w : World} {b : Nat} {s : CliV} (H : QClB w b s) (ok : s.ok) (now : Int) (q : ReqV) (hs : q.data.size ≤ 9223372036854775807) (hm1 : ¬ 1073741824 ≤ s.seq) (hm : ¬ (askQ s q).may) :
    Calls Try.prog 21 #[.pointer (some ⟨b, 0, none⟩), .int .i64 now, q.val] w fun e w' => e = .returned (.tuple #[.int .i64 0, .int .i64 1]) ∧ Below w.heap.size w w' := by
  obtain ⟨cl, sq, kd, ri, mt, dt⟩ := q
  simp only [ReqV.val]
  have hlt := H.lt
  have hsq := ok.sq
  obtain ⟨n2, hn2⟩ : ∃ n2, n2 = s.seq + 1 := ⟨_, rfl⟩
  have HN : Hid ((s.seq : Int) + 1 = ((n2 : Nat) : Int)) := by show _ = _; omega
  have HB0 : Hid (Below w.heap.size w (w.alloc (.cells #[.int .i64 s.id, .int .i64 sq, .int .i64 kd, .int .i64 ri, .int .i64 mt, .string dt] 33))) := (Below.refl _ w).alloc (Nat.le_refl _) _
  have hb2 : Below w.heap.size w (w.alloc (.cells #[.int .i64 s.id, .int .i64 (n2 : Int), .int .i64 kd, .int .i64 ri, .int .i64 mt, .string dt] 33)) := (Below.refl _ w).alloc (Nat.le_refl _) _
  have hq2 : (w.alloc (.cells #[.int .i64 s.id, .int .i64 (n2 : Int), .int .i64 kd, .int .i64 ri, .int .i64 mt, .string dt] 33)).heap[w.heap.size]? = some (.cells #[.int .i64 s.id, .int .i64 (n2 : Int), .int .i64 kd, .int .i64 ri, .int .i64 mt, .string dt] 33 (0, 0)) := heap_alloc_new w _
  have h2 := H.on hb2
  obtain ⟨W2, hW2⟩ : ∃ W2, W2 = w.alloc (.cells #[.int .i64 s.id, .int .i64 (n2 : Int), .int .i64 kd, .int .i64 ri, .int .i64 mt, .string dt] 33) := ⟨_, rfl⟩
  rw [← hW2] at hq2 hb2 h2
  have HQ2 := Lib.hid hq2
  have HB2 := Lib.hid hb2
  have HC2 := Lib.hid h2
  have HW2 := Lib.hid hW2
  have HD : Hid (∀ u, Below W2.heap.size W2 u → u.cell? ⟨w.heap.size, 0, none⟩ = some (.int .i64 s.id) ∧ u.cell? ⟨w.heap.size, 1, none⟩ = some (.int .i64 (n2 : Int)) ∧ u.cell? ⟨w.heap.size, 2, none⟩ = some (.int .i64 kd) ∧ u.cell? ⟨w.heap.size, 3, none⟩ = some (.int .i64 ri) ∧ u.cell? ⟨w.heap.size, 4, none⟩ = some (.int .i64 mt) ∧ u.cell? ⟨w.heap.size, 5, none⟩ = some (.string dt)) := fun u hu => by
    have h := (hu.block _ (lt_of_block HQ2.out)).trans HQ2.out
    exact ⟨by simp [World.cell?, h], by simp [World.cell?, h], by simp [World.cell?, h], by simp [World.cell?, h], by simp [World.cell?, h], by simp [World.cell?, h]⟩
  obtain ⟨a1, kv1, hbb, -⟩ := id H
  obtain ⟨c0, -, c2, -⟩ := QClB.cells hbb
  have hm2 : ¬ (1073741824 : Int) ≤ (s.seq : Int) := by omega
  have HMay : Hid (∀ u, Calls Try.prog 50 #[.agg #[.int .i64 s.id, .int .i64 (n2 : Int), .int .i64 kd, .int .i64 ri, .int .i64 mt, .string dt]] u fun e w' => e = .returned (.bool false) ∧ Below u.heap.size u w') := fun u => refmay_r s.id n2 kd ri mt dt hs false (by rw [hn2]; exact (decide_eq_false hm).symm) u
  clear H h2 hq2 hb2 hbb hW2 hn2 hm hs hm1
  go_enter Try.func21, Try.ntmps21
  go_wp2_with fail
  rw [HN.out, ← HW2.out]
  clear HN HW2 c0 c2
  obtain ⟨d0, d1, d2, d3, d4, d5⟩ := HD.out W2 (Below.refl _ _)
  go_wp2_with fail
  with_reducible refine (HMay.out _).mono ?_
  rintro e w3 ⟨rfl, b3⟩
  have B3 := Lib.hid b3
  have HB3 := Lib.hid (HB2.out.trans (b3.mono HB2.out.size))
  clear b3 d0 d1 d2 d3 d4 d5
  go_wp2
  go_returns
  exact ⟨rfl, HB3.out⟩

set_option maxRecDepth 100000 in
set_option maxHeartbeats 4000000 in
theorem qclask_time {w : World} {b : Nat} {s : CliV} (H : QClB w b s) (ok : s.ok) (now : Int) (q : ReqV) (hs : q.data.size ≤ 9223372036854775807) (hm : (askQ s q).may) (h : now < 0 ∨ 1099511627776 < now) :
    Calls Try.prog 21 #[.pointer (some ⟨b, 0, none⟩), .int .i64 now, q.val] w fun e w' => e = .returned (.tuple #[.int .i64 0, .int .i64 1]) ∧ Below w.heap.size w w' := by
  obtain ⟨cl, sq, kd, ri, mt, dt⟩ := q
  simp only [ReqV.val]
  have hlt := H.lt
  have hsq := ok.sq
  obtain ⟨n2, hn2⟩ : ∃ n2, n2 = s.seq + 1 := ⟨_, rfl⟩
  have HN : Hid ((s.seq : Int) + 1 = ((n2 : Nat) : Int)) := by show _ = _; omega
  have HB0 : Hid (Below w.heap.size w (w.alloc (.cells #[.int .i64 s.id, .int .i64 sq, .int .i64 kd, .int .i64 ri, .int .i64 mt, .string dt] 33))) := (Below.refl _ w).alloc (Nat.le_refl _) _
  have hb2 : Below w.heap.size w (w.alloc (.cells #[.int .i64 s.id, .int .i64 (n2 : Int), .int .i64 kd, .int .i64 ri, .int .i64 mt, .string dt] 33)) := (Below.refl _ w).alloc (Nat.le_refl _) _
  have hq2 : (w.alloc (.cells #[.int .i64 s.id, .int .i64 (n2 : Int), .int .i64 kd, .int .i64 ri, .int .i64 mt, .string dt] 33)).heap[w.heap.size]? = some (.cells #[.int .i64 s.id, .int .i64 (n2 : Int), .int .i64 kd, .int .i64 ri, .int .i64 mt, .string dt] 33 (0, 0)) := heap_alloc_new w _
  have h2 := H.on hb2
  obtain ⟨W2, hW2⟩ : ∃ W2, W2 = w.alloc (.cells #[.int .i64 s.id, .int .i64 (n2 : Int), .int .i64 kd, .int .i64 ri, .int .i64 mt, .string dt] 33) := ⟨_, rfl⟩
  rw [← hW2] at hq2 hb2 h2
  have HQ2 := Lib.hid hq2
  have HB2 := Lib.hid hb2
  have HC2 := Lib.hid h2
  have HW2 := Lib.hid hW2
  have HD : Hid (∀ u, Below W2.heap.size W2 u → u.cell? ⟨w.heap.size, 0, none⟩ = some (.int .i64 s.id) ∧ u.cell? ⟨w.heap.size, 1, none⟩ = some (.int .i64 (n2 : Int)) ∧ u.cell? ⟨w.heap.size, 2, none⟩ = some (.int .i64 kd) ∧ u.cell? ⟨w.heap.size, 3, none⟩ = some (.int .i64 ri) ∧ u.cell? ⟨w.heap.size, 4, none⟩ = some (.int .i64 mt) ∧ u.cell? ⟨w.heap.size, 5, none⟩ = some (.string dt)) := fun u hu => by
    have h := (hu.block _ (lt_of_block HQ2.out)).trans HQ2.out
    exact ⟨by simp [World.cell?, h], by simp [World.cell?, h], by simp [World.cell?, h], by simp [World.cell?, h], by simp [World.cell?, h], by simp [World.cell?, h]⟩
  obtain ⟨a1, kv1, hbb, -⟩ := id H
  obtain ⟨c0, -, c2, -⟩ := QClB.cells hbb
  have hm3 : ((n2 : Nat) : Int) ≤ 1073741824 := by rw [hn2]; exact hm.2.2.2.1
  have hm2 : ¬ (1073741824 : Int) ≤ (s.seq : Int) := by omega
  have HMay : Hid (∀ u, Calls Try.prog 50 #[.agg #[.int .i64 s.id, .int .i64 (n2 : Int), .int .i64 kd, .int .i64 ri, .int .i64 mt, .string dt]] u fun e w' => e = .returned (.bool true) ∧ Below u.heap.size u w') := fun u => refmay_r s.id n2 kd ri mt dt hs true (by rw [hn2]; exact (decide_eq_true hm).symm) u
  clear H h2 hq2 hb2 hbb hW2 hn2 hm hs hm3
  have h5 : (now < 0) ∨ (¬ now < 0 ∧ 1099511627776 < now) := by omega
  clear h
  go_enter Try.func21, Try.ntmps21
  rcases h5 with h5 | ⟨h5, h6⟩
  · go_wp2_with fail
    rw [HN.out, ← HW2.out]
    clear HN HW2 c0 c2
    obtain ⟨d0, d1, d2, d3, d4, d5⟩ := HD.out W2 (Below.refl _ _)
    go_wp2_with fail
    with_reducible refine (HMay.out _).mono ?_
    rintro e w3 ⟨rfl, b3⟩
    have B3 := Lib.hid b3
    have HB3 := Lib.hid (HB2.out.trans (b3.mono HB2.out.size))
    clear b3 d0 d1 d2 d3 d4 d5
    go_wp2
    go_returns
    exact ⟨rfl, HB3.out⟩
  · go_wp2_with fail
    rw [HN.out, ← HW2.out]
    clear HN HW2 c0 c2
    obtain ⟨d0, d1, d2, d3, d4, d5⟩ := HD.out W2 (Below.refl _ _)
    go_wp2_with fail
    with_reducible refine (HMay.out _).mono ?_
    rintro e w3 ⟨rfl, b3⟩
    have B3 := Lib.hid b3
    have HB3 := Lib.hid (HB2.out.trans (b3.mono HB2.out.size))
    clear b3 d0 d1 d2 d3 d4 d5
    go_wp2
    go_returns
    exact ⟨rfl, HB3.out⟩

set_option maxRecDepth 100000 in
set_option maxHeartbeats 4000000 in
theorem qclask_state {w : World} {b : Nat} {s : CliV} (H : QClB w b s) (ok : s.ok) (now : Int) (q : ReqV) (hs : q.data.size ≤ 9223372036854775807) (hm : (askQ s q).may) (h0 : 0 ≤ now) (h1 : now ≤ 1099511627776) (ht : 0 < s.tries) :
    Calls Try.prog 21 #[.pointer (some ⟨b, 0, none⟩), .int .i64 now, q.val] w fun e w' => e = .returned (.tuple #[.int .i64 0, .int .i64 4]) ∧ Below w.heap.size w w' := by
  obtain ⟨cl, sq, kd, ri, mt, dt⟩ := q
  simp only [ReqV.val]
  have hlt := H.lt
  have hsq := ok.sq
  obtain ⟨n2, hn2⟩ : ∃ n2, n2 = s.seq + 1 := ⟨_, rfl⟩
  have HN : Hid ((s.seq : Int) + 1 = ((n2 : Nat) : Int)) := by show _ = _; omega
  have HB0 : Hid (Below w.heap.size w (w.alloc (.cells #[.int .i64 s.id, .int .i64 sq, .int .i64 kd, .int .i64 ri, .int .i64 mt, .string dt] 33))) := (Below.refl _ w).alloc (Nat.le_refl _) _
  have hb2 : Below w.heap.size w (w.alloc (.cells #[.int .i64 s.id, .int .i64 (n2 : Int), .int .i64 kd, .int .i64 ri, .int .i64 mt, .string dt] 33)) := (Below.refl _ w).alloc (Nat.le_refl _) _
  have hq2 : (w.alloc (.cells #[.int .i64 s.id, .int .i64 (n2 : Int), .int .i64 kd, .int .i64 ri, .int .i64 mt, .string dt] 33)).heap[w.heap.size]? = some (.cells #[.int .i64 s.id, .int .i64 (n2 : Int), .int .i64 kd, .int .i64 ri, .int .i64 mt, .string dt] 33 (0, 0)) := heap_alloc_new w _
  have h2 := H.on hb2
  obtain ⟨W2, hW2⟩ : ∃ W2, W2 = w.alloc (.cells #[.int .i64 s.id, .int .i64 (n2 : Int), .int .i64 kd, .int .i64 ri, .int .i64 mt, .string dt] 33) := ⟨_, rfl⟩
  rw [← hW2] at hq2 hb2 h2
  have HQ2 := Lib.hid hq2
  have HB2 := Lib.hid hb2
  have HC2 := Lib.hid h2
  have HW2 := Lib.hid hW2
  have HD : Hid (∀ u, Below W2.heap.size W2 u → u.cell? ⟨w.heap.size, 0, none⟩ = some (.int .i64 s.id) ∧ u.cell? ⟨w.heap.size, 1, none⟩ = some (.int .i64 (n2 : Int)) ∧ u.cell? ⟨w.heap.size, 2, none⟩ = some (.int .i64 kd) ∧ u.cell? ⟨w.heap.size, 3, none⟩ = some (.int .i64 ri) ∧ u.cell? ⟨w.heap.size, 4, none⟩ = some (.int .i64 mt) ∧ u.cell? ⟨w.heap.size, 5, none⟩ = some (.string dt)) := fun u hu => by
    have h := (hu.block _ (lt_of_block HQ2.out)).trans HQ2.out
    exact ⟨by simp [World.cell?, h], by simp [World.cell?, h], by simp [World.cell?, h], by simp [World.cell?, h], by simp [World.cell?, h], by simp [World.cell?, h]⟩
  obtain ⟨a1, kv1, hbb, -⟩ := id H
  obtain ⟨c0, -, c2, -⟩ := QClB.cells hbb
  have hm3 : ((n2 : Nat) : Int) ≤ 1073741824 := by rw [hn2]; exact hm.2.2.2.1
  have hm2 : ¬ (1073741824 : Int) ≤ (s.seq : Int) := by omega
  have HMay : Hid (∀ u, Calls Try.prog 50 #[.agg #[.int .i64 s.id, .int .i64 (n2 : Int), .int .i64 kd, .int .i64 ri, .int .i64 mt, .string dt]] u fun e w' => e = .returned (.bool true) ∧ Below u.heap.size u w') := fun u => refmay_r s.id n2 kd ri mt dt hs true (by rw [hn2]; exact (decide_eq_true hm).symm) u
  have H0' : Hid (¬ now < 0) := by show ¬ _; omega
  have H1' : Hid (¬ 1099511627776 < now) := by show ¬ _; omega
  have HT' : Hid ((0 : Int) < (s.tries : Int)) := by show _ < _; omega
  clear H h2 hq2 hb2 hbb hW2 hn2 hm hs hm3 ht h0 h1
  go_enter Try.func21, Try.ntmps21
  go_wp2_with fail
  rw [HN.out, ← HW2.out]
  clear HN HW2 c0 c2
  obtain ⟨d0, d1, d2, d3, d4, d5⟩ := HD.out W2 (Below.refl _ _)
  go_wp2_with fail
  with_reducible refine (HMay.out _).mono ?_
  rintro e w3 ⟨rfl, b3⟩
  have B3 := Lib.hid b3
  have HB3 := Lib.hid (HB2.out.trans (b3.mono HB2.out.size))
  clear b3 d0 d1 d2 d3 d4 d5
  clear hm2 hsq
  have h0' := H0'.out
  have h1' := H1'.out
  have ht' := HT'.out
  obtain ⟨a3, kv3, hb3, -⟩ := HC2.out.on B3.out
  obtain ⟨-, -, -, -, c4, -⟩ := QClB.cells hb3
  clear hb3
  go_wp2
  go_returns
  exact ⟨rfl, HB3.out⟩

set_option maxRecDepth 100000 in
set_option maxHeartbeats 4000000 in
theorem qclask_ok {w : World} {b : Nat} {s : CliV} (H : QClB w b s) (ok : s.ok) (now : Int) (q : ReqV) (hs : q.data.size ≤ 9223372036854775807) (hm : (askQ s q).may) (h0 : 0 ≤ now) (h1 : now ≤ 1099511627776) (ht : ¬ 0 < s.tries) :
    Calls Try.prog 21 #[.pointer (some ⟨b, 0, none⟩), .int .i64 now, q.val] w fun e w' => e = .returned (.tuple #[.int .i64 (targV s.L s.n 1 (wrQ q)), .int .i64 0]) ∧ QClB w' b (s.ask now q) ∧ Only (· = b) w w' := by
  obtain ⟨cl, sq, kd, ri, mt, dt⟩ := q
  simp only [ReqV.val]
  have hlt := H.lt
  have hsq := ok.sq
  obtain ⟨n2, hn2⟩ : ∃ n2, n2 = s.seq + 1 := ⟨_, rfl⟩
  have HN : Hid ((s.seq : Int) + 1 = ((n2 : Nat) : Int)) := by show _ = _; omega
  have HB0 : Hid (Below w.heap.size w (w.alloc (.cells #[.int .i64 s.id, .int .i64 sq, .int .i64 kd, .int .i64 ri, .int .i64 mt, .string dt] 33))) := (Below.refl _ w).alloc (Nat.le_refl _) _
  have hb2 : Below w.heap.size w (w.alloc (.cells #[.int .i64 s.id, .int .i64 (n2 : Int), .int .i64 kd, .int .i64 ri, .int .i64 mt, .string dt] 33)) := (Below.refl _ w).alloc (Nat.le_refl _) _
  have hq2 : (w.alloc (.cells #[.int .i64 s.id, .int .i64 (n2 : Int), .int .i64 kd, .int .i64 ri, .int .i64 mt, .string dt] 33)).heap[w.heap.size]? = some (.cells #[.int .i64 s.id, .int .i64 (n2 : Int), .int .i64 kd, .int .i64 ri, .int .i64 mt, .string dt] 33 (0, 0)) := heap_alloc_new w _
  have h2 := H.on hb2
  obtain ⟨W2, hW2⟩ : ∃ W2, W2 = w.alloc (.cells #[.int .i64 s.id, .int .i64 (n2 : Int), .int .i64 kd, .int .i64 ri, .int .i64 mt, .string dt] 33) := ⟨_, rfl⟩
  rw [← hW2] at hq2 hb2 h2
  have HQ2 := Lib.hid hq2
  have HB2 := Lib.hid hb2
  have HC2 := Lib.hid h2
  have HW2 := Lib.hid hW2
  have HD : Hid (∀ u, Below W2.heap.size W2 u → u.cell? ⟨w.heap.size, 0, none⟩ = some (.int .i64 s.id) ∧ u.cell? ⟨w.heap.size, 1, none⟩ = some (.int .i64 (n2 : Int)) ∧ u.cell? ⟨w.heap.size, 2, none⟩ = some (.int .i64 kd) ∧ u.cell? ⟨w.heap.size, 3, none⟩ = some (.int .i64 ri) ∧ u.cell? ⟨w.heap.size, 4, none⟩ = some (.int .i64 mt) ∧ u.cell? ⟨w.heap.size, 5, none⟩ = some (.string dt)) := fun u hu => by
    have h := (hu.block _ (lt_of_block HQ2.out)).trans HQ2.out
    exact ⟨by simp [World.cell?, h], by simp [World.cell?, h], by simp [World.cell?, h], by simp [World.cell?, h], by simp [World.cell?, h], by simp [World.cell?, h]⟩
  obtain ⟨a1, kv1, hbb, -⟩ := id H
  obtain ⟨c0, -, c2, -⟩ := QClB.cells hbb
  have hm3 : ((n2 : Nat) : Int) ≤ 1073741824 := by rw [hn2]; exact hm.2.2.2.1
  have hm2 : ¬ (1073741824 : Int) ≤ (s.seq : Int) := by omega
  have HMay : Hid (∀ u, Calls Try.prog 50 #[.agg #[.int .i64 s.id, .int .i64 (n2 : Int), .int .i64 kd, .int .i64 ri, .int .i64 mt, .string dt]] u fun e w' => e = .returned (.bool true) ∧ Below u.heap.size u w') := fun u => refmay_r s.id n2 kd ri mt dt hs true (by rw [hn2]; exact (decide_eq_true hm).symm) u
  have H0' : Hid (¬ now < 0) := by show ¬ _; omega
  have H1' : Hid (¬ 1099511627776 < now) := by show ¬ _; omega
  have HT' : Hid (¬ (0 : Int) < (s.tries : Int)) := by show ¬ _; omega
  have hn1 := ok.n1
  have hn5 := ok.n5
  have HTT : Hid (∀ u kv, RowI u kv s.L → Calls Try.prog 60 #[.agg #[.int .i64 s.ep, kv], .int .i64 s.n, .int .i64 1, .bool (wrQ ⟨cl, sq, kd, ri, mt, dt⟩)] u fun e w' => e = .returned (.int .i64 (targV s.L s.n 1 (wrQ ⟨cl, sq, kd, ri, mt, dt⟩))) ∧ Below u.heap.size u w') := fun u kv hu => qtarget_r _ _ _ _ 1 _ u hu.ints hn1 (by omega) (by omega) (by omega)
  have HWr : Hid (∀ u, Calls Try.prog 61 #[.agg #[.int .i64 s.id, .int .i64 (n2 : Int), .int .i64 kd, .int .i64 ri, .int .i64 mt, .string dt]] u fun e w' => e = .returned (.bool (wrQ ⟨cl, sq, kd, ri, mt, dt⟩)) ∧ Below u.heap.size u w') := fun u => refwrites_r _ _ _ _ _ _ (wrQ ⟨cl, sq, kd, ri, mt, dt⟩) rfl u
  generalize targV s.L s.n 1 (wrQ ⟨cl, sq, kd, ri, mt, dt⟩) = T at HTT ⊢
  generalize wrQ ⟨cl, sq, kd, ri, mt, dt⟩ = WB at HTT HWr
  have HN2 := Lib.hid hn2
  clear H h2 hq2 hb2 hbb hW2 hn2 hm hs hm3 ht h0 h1
  go_enter Try.func21, Try.ntmps21
  go_wp2_with fail
  rw [HN.out, ← HW2.out]
  clear HN HW2 c0 c2
  obtain ⟨d0, d1, d2, d3, d4, d5⟩ := HD.out W2 (Below.refl _ _)
  go_wp2_with fail
  with_reducible refine (HMay.out _).mono ?_
  rintro e w3 ⟨rfl, b3⟩
  have B3 := Lib.hid b3
  have HB3 := Lib.hid (HB2.out.trans (b3.mono HB2.out.size))
  clear b3 d0 d1 d2 d3 d4 d5
  clear hm2 hsq
  have h0' := H0'.out
  have h1' := H1'.out
  have ht' := HT'.out
  obtain ⟨a3, kv3, hb3, hr3, -⟩ := HC2.out.on B3.out
  obtain ⟨k7, r7, o7⟩ := QClB.asks hb3 hr3 now ⟨cl, sq, kd, ri, mt, dt⟩
  have hx7 := (o7.block w.heap.size (by have := (HD.out w3 B3.out).1; exact lt_of_block ((B3.out.block _ (lt_of_block HQ2.out)).trans HQ2.out)) (by omega)).trans ((B3.out.block _ (lt_of_block HQ2.out)).trans HQ2.out)
  obtain ⟨W7, hW7⟩ : ∃ W7, W7 = qaskW w3 b s now ⟨cl, sq, kd, ri, mt, dt⟩ := ⟨_, rfl⟩
  rw [← hW7] at k7 r7 o7 hx7
  unfold qaskW qsix at hW7
  simp only [storedL, Nat.reduceAdd] at hW7
  rw [← HN2.out] at hW7
  have HW7 := Lib.hid hW7
  have K7 := Lib.hid k7
  have R7 := Lib.hid r7
  have X7 := Lib.hid hx7
  have O7 : Hid (Only (· = b) w W7) := (Only.of (S := (· = b)) (HB3.out)).trans o7
  obtain ⟨d0, d1, d2, d3, d4, d5⟩ := HD.out w3 B3.out
  obtain ⟨-, e1, e2, e3, e4, e5, e6, e7, e8, e9, e10, e11, e12⟩ := QClB.cells hb3
  have hf := QClB.free hb3
  have f2 := hf 2
  have f3 := hf 3
  have f4 := hf 4
  have f5 := hf 5
  have f6 := hf 6
  have f7 := hf 7
  have f8 := hf 8
  have f9 := hf 9
  have f10 := hf 10
  clear hf hb3 hr3 k7 r7 o7 hx7 hW7
  go_wp2_with fail
  go_region
  all_goals
    rw [← HW7.out]
    clear HW7 e1 e2 e3 e4 e5 e6 e7 e8 e9 e10 e11 e12 f2 f3 f4 f5 f6 f7 f8 f9 f10 d0 d1 d2 d3 d4 d5
    have HX : Hid (∀ u, Below W7.heap.size W7 u → u.heap[b]? = some (.cells (qclCells (s.ask now ⟨cl, sq, kd, ri, mt, dt⟩) now kv3) 42 (0, 0)) ∧ RowI u kv3 s.L) := fun u hu => ⟨(hu.block b (lt_of_block K7.out)).trans K7.out, R7.out.on hu⟩
    have FX : Hid (∀ u, Below W7.heap.size W7 u → (u.cell? ⟨w.heap.size, 0, none⟩ = some (.int .i64 s.id) ∧ u.cell? ⟨w.heap.size, 1, none⟩ = some (.int .i64 (n2 : Int)) ∧ u.cell? ⟨w.heap.size, 2, none⟩ = some (.int .i64 kd) ∧ u.cell? ⟨w.heap.size, 3, none⟩ = some (.int .i64 ri) ∧ u.cell? ⟨w.heap.size, 4, none⟩ = some (.int .i64 mt) ∧ u.cell? ⟨w.heap.size, 5, none⟩ = some (.string dt)) ∧ u.cell? ⟨b, 1, none⟩ = some (.int .i64 s.n) ∧ u.cell? ⟨b, 11, none⟩ = some (.int .i64 s.ep) ∧ u.cell? ⟨b, 12, none⟩ = some kv3) := fun u hu => by
      have h := (hu.block _ (lt_of_block X7.out)).trans X7.out
      obtain ⟨_, c1, _, _, _, _, _, _, _, _, _, c11, c12⟩ := QClB.cells (HX.out u hu).1
      exact ⟨⟨by simp [World.cell?, h], by simp [World.cell?, h], by simp [World.cell?, h], by simp [World.cell?, h], by simp [World.cell?, h], by simp [World.cell?, h]⟩, c1, c11, c12⟩
    have HQK : Hid (QClB W7 b (s.ask now ⟨cl, sq, kd, ri, mt, dt⟩)) := ⟨now, kv3, K7.out, R7.out, fun _ => rfl⟩
    go_wp2_with fail
    refine region_quiet (fun v => Below W7.heap.size W7 v) (by kernel_rfl) (by kernel_rfl) (Below.refl _ _).drew.drew ?_
    repeat (first
      | go_big_quiet_skip
      | (go_big_quiet_want
         (first
          | (refine quiet_run (v := ?_) ?_ ?_; rotate_left; (intro u hu; obtain ⟨⟨d0, d1, d2, d3, d4, d5⟩, c1, c11, c12⟩ := FX.out u hu; go_simp <;> with_reducible rfl); simp only [Act.put, List.setIfInBounds_toArray, List.set_cons_zero, List.set_cons_succ]; go_big_quiet_on)
          | (refine quiet_enter 61 _ ?_ (fun u hu => (HWr.out u).mono fun e u' ⟨he, hb⟩ => ⟨he, hu.trans (hb.mono hu.size)⟩) ?_; (focus (intro u; first | (go_simp; done) | (go_simp; with_reducible rfl))); simp only [Act.put, List.setIfInBounds_toArray, List.set_cons_zero, List.set_cons_succ]; go_big_quiet_on)
          | (refine quiet_enter 60 _ ?_ (fun u hu => (HTT.out u kv3 (HX.out u hu).2).mono fun e u' ⟨he, hb⟩ => ⟨he, hu.trans (hb.mono hu.size)⟩) ?_; (focus (intro u; first | (go_simp; done) | (go_simp; with_reducible rfl))); simp only [Act.put, List.setIfInBounds_toArray, List.set_cons_zero, List.set_cons_succ]; go_big_quiet_on))))
    refine wpQuiet_nil ?_
    intro w8 h8
    have C8 : Hid (QClB w8 b (s.ask now ⟨cl, sq, kd, ri, mt, dt⟩)) := HQK.out.on h8
    have O8 : Hid (Only (· = b) w w8) := O7.out.then (.of (S := fun _ => False) h8) (fun _ _ h => h.elim)
    clear FX HX h8
    go_wp2
    go_returns
    exact ⟨rfl, C8.out, O8.out⟩

section
variable {w : World} {b : Nat} {s : CliV}
theorem qcoask_r (H : QClB w b s) (ok : s.ok) (now : Int) (q : ReqV) (hs : q.data.size ≤ 9223372036854775807) :
    Calls Try.prog 21 #[.pointer (some ⟨b, 0, none⟩), .int .i64 now, q.val] w fun e w' => e = .returned (.tuple #[.int .i64 (caskTo s now q), .int .i64 (caskE s now q)]) ∧ QClB w' b (caskS s now q) ∧ Only (· = b) w w' := by
  unfold caskTo caskS caskE
  by_cases hg : caskGood s now q
  · rw [if_pos hg]
    by_cases ht : 0 < s.tries
    · rw [if_pos ht, if_neg (by decide), if_neg (by decide)]
      exact (qclask_state H ok now q hs hg.2 hg.1.1 hg.1.2 ht).mono fun _ _ ⟨he, hb⟩ => ⟨he, H.on hb, .of hb⟩
    · rw [if_neg ht, if_pos rfl, if_pos rfl]
      exact qclask_ok H ok now q hs hg.2 hg.1.1 hg.1.2 ht
  · rw [if_neg hg, if_neg (by decide), if_neg (by decide)]
    by_cases h0 : 1073741824 ≤ s.seq
    · exact (qclask_far H ok now q hs h0).mono fun _ _ ⟨he, hb⟩ => ⟨he, H.on hb, .of hb⟩
    by_cases hm : (askQ s q).may
    · exact (qclask_time H ok now q hs hm (by
        by_cases h1 : now < 0
        · exact .inl h1
        · refine .inr ?_
          rcases Int.lt_or_le 1099511627776 now with h2 | h2
          · exact h2
          · exact absurd ⟨⟨by omega, h2⟩, hm⟩ hg)).mono fun _ _ ⟨he, hb⟩ => ⟨he, H.on hb, .of hb⟩
    · exact (qclask_arg H ok now q hs h0 hm).mono fun _ _ ⟨he, hb⟩ => ⟨he, H.on hb, .of hb⟩
theorem qcotick_r (H : QClB w b s) (ok : s.ok) (now : Int) (hn : now ≤ 9223372036854775807) (ht : s.tries ≤ 99999) :
    Calls Try.prog 22 #[.pointer (some ⟨b, 0, none⟩), .int .i64 now] w fun e w' => e = .returned (.tuple #[.int .i64 (ctickTo s now), .bool (decide (dueV s now))]) ∧ QClB w' b (ctickS s now) ∧ Only (· = b) w w' := by
  unfold ctickTo ctickS
  by_cases hd : dueV s now
  · rw [if_pos hd, if_pos hd, decide_eq_true hd]
    exact qcltick_yes H ok now hn hd ht
  · rw [if_neg hd, if_neg hd, decide_eq_false hd]
    exact (qcltick_no H ok now hn hd).mono fun _ _ ⟨he, hb⟩ => ⟨he, H.on hb, .of hb⟩
theorem qcotold_r (H : QClB w b s) (ok : s.ok) (k ep : Int) (v : Value) (L : List Int) (hI : Ints w w.heap.size v L) :
    Calls Try.prog 23 #[.pointer (some ⟨b, 0, none⟩), .int .i64 k, .agg #[.int .i64 ep, v]] w fun e w' => e = .returned (.tuple #[]) ∧ QClB w' b (ctoldS s k ep L) ∧ Only (· = b) w w' := by
  unfold ctoldS
  by_cases hd : tellV s k ep L
  · rw [if_pos hd]
    exact qcltold_yes H ok k ep v L hI hd
  · rw [if_neg hd]
    exact (qcltold_no H ok k ep v L hI hd).mono fun _ _ ⟨he, hb⟩ => ⟨he, H.on hb, .of hb⟩
end
end Go.Proofs.Ytpcbpimlakehcaa
