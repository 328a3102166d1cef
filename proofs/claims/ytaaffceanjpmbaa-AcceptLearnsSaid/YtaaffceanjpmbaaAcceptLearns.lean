/-
  PROVED: casebooklaw13.AcceptLearns answers true and leaves its arguments as they were, for any numbers: the row's own reading and nothing else is assumed.
-/
import Derived.Test.YtaaffceanjpmbaaAccT
import Derived.Test.YtaaffceanjpmbaaItemRC
import Derived.Test.YtaaffceanjpmbaaClockArgs
namespace Go.Proofs.Ytaaffceanjpmbaa.AcceptLearns
open Go.ChangeShapes Go.WideShapes Go.ChangeAt Go.RowKit

theorem run_ne_ballot (r n : Int) (w : World) : (binOp .neq 30 (.agg #[.int .i64 r, .int .i64 n]) (.agg #[.int .i64 r, .int .i64 n])).run Try.prog w = .ok (.bool false) w := by
  rw [run_neq_struct, run_equalIn_agg _ _ _ _ _ (by kernel_rfl) (by kernel_rfl)]
  simp [Program.fieldsOf, Try.underlying30, Op.eqFields, go_sem]
/-- A comparison (!=) of two structs whose run lies as a fact. -/
theorem exec_neq_agg {P : Program} {o : Oper} {a : Act} {t t2 : TypeId} {x y : Operand} {v : Value} {w : World} (cx cy : Array Value) (hg : P.eqGuardType P.depth t = false) (ho : o.op = .binOp .neq t x y t2) (hx : a.eval x = .agg cx) (hy : a.eval y = .agg cy)
    (h : (binOp .neq t (.agg cx) (.agg cy)).run P w = .ok v w) :
    (execOp a.eval o).run P w = .ok (.value v) w := by
  unfold execOp
  rw [ho]
  simp only [hx, hy]
  have hge := run_eqGuard_agg (P := P) (w := w) BinOp.neq t x y cx cy hg
  generalize binOp .neq t (.agg cx) (.agg cy) = B at h ⊢
  generalize eqGuard .neq t x y (.agg cx) (.agg cy) = E at hge ⊢
  simp [go_sem, hge, h]
theorem bit_one : ∀ i : Fin 20, bits .and .i64 ((i.val : Nat) : Int) 1 = ((i.val % 2 : Nat) : Int) := by decide
theorem may_one (t : Nat) (h : t < 1000) : ChainV.may ⟨(t : Int), [((t % 5 : Nat) : Int)]⟩ ∧ ∀ x ∈ [((t % 5 : Nat) : Int)], x < 5 := by
  refine ⟨⟨by show (0 : Int) ≤ t; omega, by show (t : Int) ≤ 1073741824; omega, by simp, by simp, ?_, by simp⟩, ?_⟩
  · intro x hx
    rw [List.mem_singleton] at hx
    subst hx
    omega
  · intro x hx
    rw [List.mem_singleton] at hx
    subst hx
    omega
theorem lrn_one {s : AccV} {top t : Nat} (h5 : s.n = 5) (hk : s.ke = top) (h : t < 1000) : lrnE s t [((t % 5 : Nat) : Int)] = if t ≤ top then 7 else 0 := by
  obtain ⟨h1, h2⟩ := may_one t h
  unfold lrnE
  rw [h5, if_neg (fun hn => hn ⟨h1, h2⟩), hk]
  by_cases hle : t ≤ top
  · rw [if_pos (by omega), if_pos hle]
  · rw [if_neg (by omega), if_neg hle]
theorem prep_ke (s : AccV) (ep r k : Int) : (prepS s ep r k).ke = s.ke ∧ (prepS s ep r k).n = s.n := by
  unfold prepS
  split <;> exact ⟨rfl, rfl⟩

set_option maxRecDepth 100000 in
set_option maxHeartbeats 8000000 in
theorem walk (v : Value) (l : List Int) (w : World) (hI : Ints w w.heap.size v l) :
    Calls Try.prog 3 #[v] w fun e w' => e = .returned (.bool true) ∧ Below w.heap.size w w' := by
  have HT := Lib.hid (fun u => told13_any u)
  obtain ⟨a0, c0, rfl⟩ : ∃ a c, v = .slice a l.length c := by obtain ⟨a, c, h, _⟩ := hI; exact ⟨a, c, h⟩
  obtain ⟨m, hm⟩ : ∃ m, m = l.length := ⟨_, rfl⟩
  obtain ⟨n, hn⟩ : ∃ n, n = w.heap.size := ⟨_, rfl⟩
  have HM := Lib.hid hm
  have HNN := Lib.hid hn
  rw [← hm] at hI ⊢
  rw [← hn] at hI ⊢
  have HI := Lib.hid hI
  have HN : Hid (Calls Try.prog 9 #[.int .i64 5] w fun e w' => ∃ p, e = .returned (.tuple #[.pointer (some ⟨p, 0, none⟩), .int .i64 0]) ∧ Hid (AO n w p (AccV.first 5) w' ∧ Below w.heap.size w w')) := ao_new 5 (by decide) (by decide) (Below.refl _ _) (by omega)
  clear hm hI hn
  go_enter Try.func3, Try.ntmps3
  go_wp2_with fail
  refine HN.out.mono ?_
  rintro e w1 ⟨p, rfl, H1⟩
  go_wp2_with fail
  go_loopw [5, 6] (fun s5 s6 wr => ∃ (i top : Nat) (s : AccV), s5 = .int .i64 top ∧ s6 = .int .i64 i ∧ i ≤ m ∧ i ≤ 20 ∧ top < 1000 ∧ Hid (AO n w p s wr ∧ s.ke = top ∧ s.n = 5)) (fun _ s6 _ => m - (intOf s6).toNat)
  case atStart => exact ⟨0, 1, AccV.first 5, rfl, rfl, by omega, by omega, by omega, H1.out.1, rfl, rfl⟩
  case round =>
    obtain ⟨i, top, s, rfl, rfl, him, hi20, htop, HR⟩ := hrel
    have HG : Hid (∀ u, AO n w p s u → Calls Try.prog 10 #[.pointer (some ⟨p, 0, none⟩), .int .i64 (top : Int), .agg #[.int .i64 5, .int .i64 0]] u fun e w' => ∃ a k c, e = .returned (.tuple #[.agg #[.int .i64 0, .int .i64 0, .int .i64 0, .int .i64 0, .bool false, .int .i64 0, .slice a k c], .int .i64 7]) ∧ Hid (AO n w p s w')) := fun u hu => by
      have e1 : prepE s top 5 0 = 7 := by rw [prepE, if_neg (by decide), if_pos (by rw [HR.out.2.1]; omega)]
      exact (ao_prep hu (top : Int) 5 0 (s' := s) (V := VoteV.zero) (by rw [prepS, if_neg (by rw [e1]; decide)]) (by rw [prepV, if_neg (by rw [e1]; decide)]) e1).mono fun _ _ ⟨a, k, c, he, hh⟩ => ⟨a, k, c, he, hh.out.2.1⟩
    have HH : Hid (∀ u, AO n w p s u → Calls Try.prog 10 #[.pointer (some ⟨p, 0, none⟩), .int .i64 ((top : Int) + 2), .agg #[.int .i64 5, .int .i64 0]] u fun e w' => ∃ a k c, e = .returned (.tuple #[.agg #[.int .i64 0, .int .i64 0, .int .i64 0, .int .i64 0, .bool false, .int .i64 0, .slice a k c], .int .i64 4]) ∧ Hid (AO n w p s w')) := fun u hu => by
      have e1 : prepE s (top + 2) 5 0 = 4 := by rw [prepE, if_neg (by decide), if_neg (by rw [HR.out.2.1]; omega), if_pos (by rw [HR.out.2.1]; omega)]
      exact (ao_prep hu ((top : Int) + 2) 5 0 (s' := s) (V := VoteV.zero) (by rw [prepS, if_neg (by rw [e1]; decide)]) (by rw [prepV, if_neg (by rw [e1]; decide)]) e1).mono fun _ _ ⟨a, k, c, he, hh⟩ => ⟨a, k, c, he, hh.out.2.1⟩
    have HKN : Hid (∀ u, AO n w p s u → Calls Try.prog 14 #[.pointer (some ⟨p, 0, none⟩)] u fun e w' => ∃ a k c, e = .returned (.agg #[.int .i64 (top : Int), .slice a k c]) ∧ Hid (AO n w p s w')) := fun u hu =>
      (ao_known hu).mono fun _ _ ⟨a, k, c, he, hh⟩ => ⟨a, k, c, by rw [he, HR.out.2.1], hh.out.2.1⟩
    have kf1 : ∀ (u : World) (ep : Int) (a : Option Addr) (m c : Nat), (Instr.field 28 (.agg #[.int .i64 ep, .slice a m c]) 0).run Try.prog u = .ok (.int .i64 ep) u := fun u ep a m c => by kernel_rfl
    by_cases hlt : i < m
    case neg =>
      have hle1 : ¬ ((i : Int) < (m : Int)) := by omega
      go_wp2_with fail
      refine (HG.out _ HR.out.1).mono ?_
      rintro e w2 ⟨ga, gk, gc, rfl, H2⟩
      have A2 := Lib.hid (H2.out.on (w' := w2.alloc (.cells #[.int .i64 0, .int .i64 0, .int .i64 0, .int .i64 0, .bool false, .int .i64 0, .slice ga gk gc] 32)) ((Below.refl _ _).alloc (Nat.le_refl _) _))
      go_wp2_with fail
      refine (HH.out _ A2.out).mono ?_
      rintro e w3 ⟨ha, hk, hc, rfl, H3⟩
      have A3 := Lib.hid (H3.out.on (w' := w3.alloc (.cells #[.int .i64 0, .int .i64 0, .int .i64 0, .int .i64 0, .bool false, .int .i64 0, .slice ha hk hc] 32)) ((Below.refl _ _).alloc (Nat.le_refl _) _))
      go_wp2_with fail
      refine (HT.out _).mono ?_
      rintro e w4 ⟨rfl, B4⟩
      have A4 := Lib.hid (A3.out.on B4)
      clear B4
      go_wp2_with fail
      refine (HKN.out _ A4.out).mono ?_
      rintro e w5 ⟨ka, kk, kc, rfl, H5⟩
      go_wp2
      go_returns
      exact ⟨rfl, H5.out.bel⟩
    by_cases hlt2 : i < 20
    case neg =>
      have hle1 : (i : Int) < (m : Int) := by omega
      have hle2 : ¬ ((i : Int) < 20) := by omega
      go_wp2_with fail
      refine (HG.out _ HR.out.1).mono ?_
      rintro e w2 ⟨ga, gk, gc, rfl, H2⟩
      have A2 := Lib.hid (H2.out.on (w' := w2.alloc (.cells #[.int .i64 0, .int .i64 0, .int .i64 0, .int .i64 0, .bool false, .int .i64 0, .slice ga gk gc] 32)) ((Below.refl _ _).alloc (Nat.le_refl _) _))
      go_wp2_with fail
      refine (HH.out _ A2.out).mono ?_
      rintro e w3 ⟨ha, hk, hc, rfl, H3⟩
      have A3 := Lib.hid (H3.out.on (w' := w3.alloc (.cells #[.int .i64 0, .int .i64 0, .int .i64 0, .int .i64 0, .bool false, .int .i64 0, .slice ha hk hc] 32)) ((Below.refl _ _).alloc (Nat.le_refl _) _))
      go_wp2_with fail
      refine (HT.out _).mono ?_
      rintro e w4 ⟨rfl, B4⟩
      have A4 := Lib.hid (A3.out.on B4)
      clear B4
      go_wp2_with fail
      refine (HKN.out _ A4.out).mono ?_
      rintro e w5 ⟨ka, kk, kc, rfl, H5⟩
      go_wp2
      go_returns
      exact ⟨rfl, H5.out.bel⟩
    clear HG HH HKN kf1
    obtain ⟨b, off, rfl, hb, hc⟩ := (ints_cell HI.out).2 i hlt
    have hcell := (HR.out.1.bel.cell (p := ⟨b, off + i, none⟩) hb).trans hc
    generalize l.getD i 0 = x at hcell
    obtain ⟨t, ht, eq⟩ := left_of x 1000 (by decide) (by decide)
    have E : Hid (wrap64 ((IntKind.u64.wrap x).tmod 1000) = (t : Int)) := eq
    have hbit : Hid (bits .and .i64 (i : Int) 1 = ((i % 2 : Nat) : Int)) := bit_one ⟨i, hlt2⟩
    have i0 : (0 : Int) ≤ (i : Int) := by omega
    have i1 : (i : Int) < (m : Int) := by omega
    have i2 : (i : Int) < 20 := by omega
    clear eq hc
    have E2 : Hid ((t : Int).tmod 5 = ((t % 5 : Nat) : Int)) := by show _ = _; rw [Int.tmod_eq_emod_of_nonneg (by omega)]; omega
    obtain ⟨wq, hwq⟩ : ∃ u, u = (wr.alloc (.cells #[.int .i64 ((t % 5 : Nat) : Int)] 3)).alloc (.cells #[.int .i64 t, .slice (some ⟨wr.heap.size, 0, none⟩) 1 1] 28) := ⟨_, rfl⟩
    have bq : Below wr.heap.size wr wq := by rw [hwq]; exact ((Below.refl _ _).alloc (Nat.le_refl _) _).alloc (by simp) _
    have rq : RowI wq (.slice (some ⟨wr.heap.size, 0, none⟩) 1 1) [((t % 5 : Nat) : Int)] := by
      rw [hwq]
      exact (row_lit wr [((t % 5 : Nat) : Int)] 1 rfl (by decide)).on ((Below.refl _ _).alloc (Nat.le_refl _) _)
    have cq : ChT wq (wr.heap.size + 1) t (.slice (some ⟨wr.heap.size, 0, none⟩) 1 1) := by
      rw [hwq]
      have h := ChT.fresh (wr.alloc (.cells #[.int .i64 ((t % 5 : Nat) : Int)] 3)) t (.slice (some ⟨wr.heap.size, 0, none⟩) 1 1)
      rwa [World.size_alloc] at h
    have AQ : Hid (AO n w p s wq) := HR.out.1.on bq
    have RQ := Lib.hid rq
    have CQ := Lib.hid cq
    have HWQ := Lib.hid hwq
    have SK : Hid (s.ke = top ∧ s.n = 5) := HR.out.2
    clear bq rq cq hwq
    by_cases hodd : i % 2 = 1
    case neg =>
      have hb1 : (bits .and .i64 (i : Int) 1 == 1) = false := by rw [hbit.out]; exact beq_eq_false_iff_ne.2 (by omega)
      clear hodd
      by_cases hle : t ≤ top
      · have HL : Hid (Calls Try.prog 11 #[.pointer (some ⟨p, 0, none⟩), .agg #[.int .i64 t, .slice (some ⟨wr.heap.size, 0, none⟩) 1 1]] wq fun e w' => e = .returned (.int .i64 7) ∧ Hid (AO n w p (s) w' ∧ KAc wq w')) :=
          ao_lrn AQ.out t _ [((t % 5 : Nat) : Int)] _ RQ.out.ints (Nat.le_refl _) (by simp) (by rw [lrnS, if_neg (by rw [lrn_one SK.out.2 SK.out.1 ht, if_pos hle]; decide)]) (by rw [lrn_one SK.out.2 SK.out.1 ht, if_pos hle])
        have hle' : (t : Int) ≤ (top : Int) := by omega
        have hle2 : ¬ ((top : Int) < (t : Int)) := by omega
        obtain ⟨g0, g1, _, _⟩ := CQ.out.cells
        rw [HWQ.out] at g0 g1
        go_wp2_with fail
        rw [E.out, E2.out, ← HWQ.out]
        clear g0 g1
        refine HL.out.mono ?_
        rintro e w3 ⟨rfl, H3⟩
        go_wp2_with fail
        go_roundw
        case rel => exact ⟨i + 1, top, s, rfl, by go_num, by omega, by omega, htop, H3.out.1, SK.out.1, SK.out.2⟩
        case measure => simp [intOf]; omega
      · have HL : Hid (Calls Try.prog 11 #[.pointer (some ⟨p, 0, none⟩), .agg #[.int .i64 t, .slice (some ⟨wr.heap.size, 0, none⟩) 1 1]] wq fun e w' => e = .returned (.int .i64 0) ∧ Hid (AO n w p ⟨5, t, [((t % 5 : Nat) : Int)], VoteV.zero⟩ w' ∧ KAc wq w')) :=
          ao_lrn AQ.out t _ [((t % 5 : Nat) : Int)] _ RQ.out.ints (Nat.le_refl _) (by simp) (by rw [lrnS, if_pos (by rw [lrn_one SK.out.2 SK.out.1 ht, if_neg hle]), SK.out.2]) (by rw [lrn_one SK.out.2 SK.out.1 ht, if_neg hle])
        have hle2 : (top : Int) < (t : Int) := by omega
        obtain ⟨g0, g1, _, _⟩ := CQ.out.cells
        rw [HWQ.out] at g0 g1
        go_wp2_with fail
        rw [E.out, E2.out, ← HWQ.out]
        clear g0 g1
        refine HL.out.mono ?_
        rintro e w3 ⟨rfl, H3⟩
        have C3 := Lib.hid (H3.out.2.ch CQ.out)
        have R3 := Lib.hid (H3.out.2.row RQ.out)
        have HV : Hid (Calls Try.prog 12 #[.pointer (some ⟨p, 0, none⟩)] w3 fun e w' => ∃ a k c, e = .returned (.agg #[.int .i64 0, .int .i64 0, .int .i64 0, .int .i64 0, .bool false, .int .i64 0, .slice a k c]) ∧ Hid (AO n w p ⟨5, t, [((t % 5 : Nat) : Int)], VoteV.zero⟩ w' ∧ Below w3.heap.size w3 w')) := (ao_vote H3.out.1).mono fun _ _ ⟨a, k, c, he, hh⟩ => ⟨a, k, c, he, hh.out.2.1, hh.out.2.2⟩
        go_wp2_with fail
        refine HV.out.mono ?_
        rintro e w4 ⟨va, vk, vc, rfl, H4⟩
        obtain ⟨w5, hw5⟩ : ∃ u, u = w4.alloc (.cells #[.int .i64 0, .int .i64 0, .int .i64 0, .int .i64 0, .bool false, .int .i64 0, .slice va vk vc] 32) := ⟨_, rfl⟩
        have b5 : Below w4.heap.size w4 w5 := by rw [hw5]; exact (Below.refl _ _).alloc (Nat.le_refl _) _
        have v5 : VotB w5 w4.heap.size VoteV.zero (.slice va vk vc) := by rw [hw5]; exact VotB.fresh w4 VoteV.zero _
        have A5 := Lib.hid (H4.out.1.on b5)
        have c4 := C3.out.keep H4.out.2 C3.out.lt
        have C5 := Lib.hid (c4.keep b5 c4.lt)
        have R5 := Lib.hid ((R3.out.on H4.out.2).on b5)
        have V5 := Lib.hid v5
        have HW5 := Lib.hid hw5
        have HS : Hid (∀ u, Below w5.heap.size w5 u → (fun u => (u.cell? ⟨w4.heap.size, 0, none⟩ = some (.int .i64 0) ∧ u.cell? ⟨w4.heap.size, 1, none⟩ = some (.int .i64 0) ∧ u.cell? ⟨w4.heap.size, 4, none⟩ = some (.bool false)) ∧ u.cell? ⟨wr.heap.size + 1, 0, none⟩ = some (.int .i64 t) ∧ u.cell? ⟨wr.heap.size + 1, 1, none⟩ = some (.slice (some ⟨wr.heap.size, 0, none⟩) 1 1)) u) := fun u hu => ⟨⟨(V5.out.keep hu V5.out.lt).cells.1, (V5.out.keep hu V5.out.lt).cells.2.1, (V5.out.keep hu V5.out.lt).cells.2.2.2.2.1⟩, (C5.out.keep hu C5.out.lt).cells.1, (C5.out.keep hu C5.out.lt).cells.2.1⟩
        have HK : Hid (∀ u, AO n w p ⟨5, t, [((t % 5 : Nat) : Int)], VoteV.zero⟩ u → Calls Try.prog 14 #[.pointer (some ⟨p, 0, none⟩)] u fun e w' => ∃ a k c, e = .returned (.agg #[.int .i64 t, .slice a k c]) ∧ Hid (RowI w' (.slice a k c) [((t % 5 : Nat) : Int)] ∧ AO n w p ⟨5, t, [((t % 5 : Nat) : Int)], VoteV.zero⟩ w' ∧ Below u.heap.size u w')) := fun u hu => ao_known hu
        have HSC : Hid (∀ u v1 v2, RowI u v1 [((t % 5 : Nat) : Int)] → RowI u v2 [((t % 5 : Nat) : Int)] → Calls Try.prog 13 #[.agg #[.int .i64 t, v1], .agg #[.int .i64 t, v2]] u fun e w' => e = .returned (.bool true) ∧ Below u.heap.size u w') := fun u v1 v2 h1 h2 => by
          have := refsame_any t t v1 v2 _ _ u.heap.size u h1.ints h2.ints (Nat.le_refl _) (by simp)
          simpa using this
        have HNE : Hid (∀ x : World, (binOp .neq 30 (.agg #[.int .i64 0, .int .i64 0]) (.agg #[.int .i64 0, .int .i64 0])).run Try.prog x = .ok (.bool false) x) := fun x => run_ne_ballot 0 0 x
        clear b5 v5 hw5 c4
        obtain ⟨_, _⟩ : True ∧ True := ⟨trivial, trivial⟩
        go_wp2_with fail
        rw [← HW5.out]
        have b0 := (Below.drew (Below.refl w5.heap.size w5))
        have HB0 := Lib.hid b0
        clear b0
        refine wp_region_held_drew (S := (fun u => (u.cell? ⟨w4.heap.size, 0, none⟩ = some (.int .i64 0) ∧ u.cell? ⟨w4.heap.size, 1, none⟩ = some (.int .i64 0) ∧ u.cell? ⟨w4.heap.size, 4, none⟩ = some (.bool false)) ∧ u.cell? ⟨wr.heap.size + 1, 0, none⟩ = some (.int .i64 t) ∧ u.cell? ⟨wr.heap.size + 1, 1, none⟩ = some (.slice (some ⟨wr.heap.size, 0, none⟩) 1 1))) (by kernel_rfl) (HS.out _ HB0.out) (fun hHeld => ?_)
        first
          | (refine held_take 0 79 (v := ?_) rfl rfl (by kernel_rfl) (by kernel_rfl) (by kernel_rfl) (fun _ _ _ h => h) (by assumption) (by rfl) ?_ ?_; rotate_left; (focus (intro w hSw; obtain ⟨⟨hS0, hS1, hS2⟩, hS3, hS4⟩ := hSw; go_simp <;> with_reducible rfl)))
          | refine held_pass 0 79 rfl rfl (by kernel_rfl) (by kernel_rfl) (by kernel_rfl) (fun _ _ _ h => h) (by assumption) (by rfl) ?_
        simp only [Act.put, List.setIfInBounds_toArray, List.set_cons_zero, List.set_cons_succ]
        first
          | (refine held_take 1 80 (v := ?_) rfl rfl (by kernel_rfl) (by kernel_rfl) (by kernel_rfl) (fun _ _ _ h => h) (by assumption) (by rfl) ?_ ?_; rotate_left; (focus (intro w hSw; obtain ⟨⟨hS0, hS1, hS2⟩, hS3, hS4⟩ := hSw; go_simp <;> with_reducible rfl)))
          | refine held_pass 1 80 rfl rfl (by kernel_rfl) (by kernel_rfl) (by kernel_rfl) (fun _ _ _ h => h) (by assumption) (by rfl) ?_
        simp only [Act.put, List.setIfInBounds_toArray, List.set_cons_zero, List.set_cons_succ]
        first
          | (refine held_take 2 81 (v := ?_) rfl rfl (by kernel_rfl) (by kernel_rfl) (by kernel_rfl) (fun _ _ _ h => h) (by assumption) (by rfl) ?_ ?_; rotate_left; (focus (intro w hSw; obtain ⟨⟨hS0, hS1, hS2⟩, hS3, hS4⟩ := hSw; go_simp <;> with_reducible rfl)))
          | refine held_pass 2 81 rfl rfl (by kernel_rfl) (by kernel_rfl) (by kernel_rfl) (fun _ _ _ h => h) (by assumption) (by rfl) ?_
        simp only [Act.put, List.setIfInBounds_toArray, List.set_cons_zero, List.set_cons_succ]
        first
          | (refine held_take 3 82 (v := ?_) rfl rfl (by kernel_rfl) (by kernel_rfl) (by kernel_rfl) (fun _ _ _ h => h) (by assumption) (by rfl) ?_ ?_; rotate_left; (focus (intro w hSw; obtain ⟨⟨hS0, hS1, hS2⟩, hS3, hS4⟩ := hSw; go_simp <;> with_reducible rfl)))
          | refine held_pass 3 82 rfl rfl (by kernel_rfl) (by kernel_rfl) (by kernel_rfl) (fun _ _ _ h => h) (by assumption) (by rfl) ?_
        simp only [Act.put, List.setIfInBounds_toArray, List.set_cons_zero, List.set_cons_succ]
        first
          | (refine held_take 4 83 (v := ?_) rfl rfl (by kernel_rfl) (by kernel_rfl) (by kernel_rfl) (fun _ _ _ h => h) (by assumption) (by rfl) ?_ ?_; rotate_left; (focus (intro w hSw; obtain ⟨⟨hS0, hS1, hS2⟩, hS3, hS4⟩ := hSw; go_simp <;> with_reducible rfl)))
          | refine held_pass 4 83 rfl rfl (by kernel_rfl) (by kernel_rfl) (by kernel_rfl) (fun _ _ _ h => h) (by assumption) (by rfl) ?_
        simp only [Act.put, List.setIfInBounds_toArray, List.set_cons_zero, List.set_cons_succ]
        first
          | (refine held_take 5 84 (v := ?_) rfl rfl (by kernel_rfl) (by kernel_rfl) (by kernel_rfl) (fun _ _ _ h => h) (by assumption) (by rfl) ?_ ?_; rotate_left; (focus (intro w hSw; obtain ⟨⟨hS0, hS1, hS2⟩, hS3, hS4⟩ := hSw; go_simp <;> with_reducible rfl)))
          | refine held_pass 5 84 rfl rfl (by kernel_rfl) (by kernel_rfl) (by kernel_rfl) (fun _ _ _ h => h) (by assumption) (by rfl) ?_
        simp only [Act.put, List.setIfInBounds_toArray, List.set_cons_zero, List.set_cons_succ]
        refine held_take 6 85 (v := .bool false) rfl rfl (by kernel_rfl) (by kernel_rfl) (by kernel_rfl) (fun _ _ _ h => h) (by assumption) (by rfl) (fun u _ => exec_neq_agg _ _ (by kernel_rfl) rfl rfl rfl (HNE.out u)) ?_
        simp only [Act.put, List.setIfInBounds_toArray, List.set_cons_zero, List.set_cons_succ]
        first
          | (refine held_take 7 86 (v := ?_) rfl rfl (by kernel_rfl) (by kernel_rfl) (by kernel_rfl) (fun _ _ _ h => h) (by assumption) (by rfl) ?_ ?_; rotate_left; (focus (intro w hSw; obtain ⟨⟨hS0, hS1, hS2⟩, hS3, hS4⟩ := hSw; go_simp <;> with_reducible rfl)))
          | refine held_pass 7 86 rfl rfl (by kernel_rfl) (by kernel_rfl) (by kernel_rfl) (fun _ _ _ h => h) (by assumption) (by rfl) ?_
        simp only [Act.put, List.setIfInBounds_toArray, List.set_cons_zero, List.set_cons_succ]
        first
          | (refine held_take 8 87 (v := ?_) rfl rfl (by kernel_rfl) (by kernel_rfl) (by kernel_rfl) (fun _ _ _ h => h) (by assumption) (by rfl) ?_ ?_; rotate_left; (focus (intro w hSw; obtain ⟨⟨hS0, hS1, hS2⟩, hS3, hS4⟩ := hSw; go_simp <;> with_reducible rfl)))
          | refine held_pass 8 87 rfl rfl (by kernel_rfl) (by kernel_rfl) (by kernel_rfl) (fun _ _ _ h => h) (by assumption) (by rfl) ?_
        simp only [Act.put, List.setIfInBounds_toArray, List.set_cons_zero, List.set_cons_succ]
        first
          | (refine held_take 9 88 (v := ?_) rfl rfl (by kernel_rfl) (by kernel_rfl) (by kernel_rfl) (fun _ _ _ h => h) (by assumption) (by rfl) ?_ ?_; rotate_left; (focus (intro w hSw; obtain ⟨⟨hS0, hS1, hS2⟩, hS3, hS4⟩ := hSw; go_simp <;> with_reducible rfl)))
          | refine held_pass 9 88 rfl rfl (by kernel_rfl) (by kernel_rfl) (by kernel_rfl) (fun _ _ _ h => h) (by assumption) (by rfl) ?_
        simp only [Act.put, List.setIfInBounds_toArray, List.set_cons_zero, List.set_cons_succ]
        first
          | (refine held_take 11 90 (v := ?_) rfl rfl (by kernel_rfl) (by kernel_rfl) (by kernel_rfl) (fun _ _ _ h => h) (by assumption) (by rfl) ?_ ?_; rotate_left; (focus (intro w hSw; obtain ⟨⟨hS0, hS1, hS2⟩, hS3, hS4⟩ := hSw; go_simp <;> with_reducible rfl)))
          | refine held_pass 11 90 rfl rfl (by kernel_rfl) (by kernel_rfl) (by kernel_rfl) (fun _ _ _ h => h) (by assumption) (by rfl) ?_
        simp only [Act.put, List.setIfInBounds_toArray, List.set_cons_zero, List.set_cons_succ]
        refine held_call 10 89 rfl rfl (by kernel_rfl) (by rfl) (fun K hK => ?_)
        simp only [Go.wp_at_succ, Go.wp_at_zero]
        go_simp
        refine (HK.out _ ?k1).mono ?_
        case k1 => exact A5.out.on HB0.out
        rintro e w6 ⟨ka, kk, kc, rfl, H6⟩
        have HB6 := Lib.hid (HB0.out.trans (H6.out.2.2.mono HB0.out.size))
        first | (with_reducible refine hK.out _ _ ?_ (fun hHeld => ?_)) | (go_wp2_with fail; refine hK.out _ _ ?_ (fun hHeld => ?_))
        · exact HS.out _ HB6.out
        clear hK K
        try simp only [Act.put, List.setIfInBounds_toArray, List.set_cons_zero, List.set_cons_succ]
        refine held_call 12 91 rfl rfl (by kernel_rfl) (by rfl) (fun K hK => ?_)
        simp only [Go.wp_at_succ, Go.wp_at_zero]
        go_simp
        refine (HSC.out _ _ _ H6.out.1 ?k2).mono ?_
        case k2 => exact R5.out.on HB6.out
        rintro e w7 ⟨rfl, B7⟩
        have HB7 := Lib.hid (HB6.out.trans (B7.mono HB6.out.size))
        have A7 := Lib.hid (H6.out.2.1.on B7)
        clear B7
        first | (with_reducible refine hK.out _ _ ?_ (fun hHeld => ?_)) | (go_wp2_with fail; refine hK.out _ _ ?_ (fun hHeld => ?_))
        · exact HS.out _ HB7.out
        clear hK K
        try simp only [Act.put, List.setIfInBounds_toArray, List.set_cons_zero, List.set_cons_succ]
        first
          | (refine held_take 13 92 (v := ?_) rfl rfl (by kernel_rfl) (by kernel_rfl) (by kernel_rfl) (fun _ _ _ h => h) (by assumption) (by rfl) ?_ ?_; rotate_left; (focus (intro w hSw; obtain ⟨⟨hS0, hS1, hS2⟩, hS3, hS4⟩ := hSw; go_simp <;> with_reducible rfl)))
          | refine held_pass 13 92 rfl rfl (by kernel_rfl) (by kernel_rfl) (by kernel_rfl) (fun _ _ _ h => h) (by assumption) (by rfl) ?_
        simp only [Act.put, List.setIfInBounds_toArray, List.set_cons_zero, List.set_cons_succ]
        first
          | (refine held_take 14 93 (v := ?_) rfl rfl (by kernel_rfl) (by kernel_rfl) (by kernel_rfl) (fun _ _ _ h => h) (by assumption) (by rfl) ?_ ?_; rotate_left; (focus (intro w hSw; obtain ⟨⟨hS0, hS1, hS2⟩, hS3, hS4⟩ := hSw; go_simp <;> with_reducible rfl)))
          | refine held_pass 14 93 rfl rfl (by kernel_rfl) (by kernel_rfl) (by kernel_rfl) (fun _ _ _ h => h) (by assumption) (by rfl) ?_
        simp only [Act.put, List.setIfInBounds_toArray, List.set_cons_zero, List.set_cons_succ]
        refine wpAnyH_done (by kernel_rfl) ?_ _
        go_wp2_with fail
        go_roundw
        case rel => exact ⟨i + 1, t, ⟨5, t, [((t % 5 : Nat) : Int)], VoteV.zero⟩, rfl, by go_num, by omega, by omega, ht, A7.out, rfl, rfl⟩
        case measure => simp [intOf]; omega
    case pos =>
      have hb1 : (bits .and .i64 (i : Int) 1 == 1) = true := by rw [hbit.out, hodd]; rfl
      have HPR : Hid (∀ u, AO n w p s u → Calls Try.prog 10 #[.pointer (some ⟨p, 0, none⟩), .int .i64 ((top : Int) + 1), .agg #[.int .i64 (1 + (i : Int)), .int .i64 2]] u fun e w' => ∃ a k c x0 x1 x2 x3 x5 bb err, e = .returned (.tuple #[.agg #[.int .i64 x0, .int .i64 x1, .int .i64 x2, .int .i64 x3, .bool bb, .int .i64 x5, .slice a k c], .int .i64 err]) ∧ Hid (AO n w p (prepS s (top + 1) (1 + i) 2) w' ∧ KAc u w')) := fun u hu =>
        (ao_prep hu ((top : Int) + 1) (1 + (i : Int)) 2 rfl rfl rfl).mono fun _ _ ⟨a, k, c, he, hh⟩ => ⟨a, k, c, _, _, _, _, _, _, _, he, hh.out.2.1, hh.out.2.2⟩
      have SK2 : Hid ((prepS s (top + 1) (1 + i) 2).ke = top ∧ (prepS s (top + 1) (1 + i) 2).n = 5) := by
        obtain ⟨e1, e2⟩ := prep_ke s (top + 1) (1 + i) 2
        exact ⟨e1.trans SK.out.1, e2.trans SK.out.2⟩
      obtain ⟨g0, g1, _, _⟩ := CQ.out.cells
      rw [HWQ.out] at g0 g1
      clear hodd
      by_cases hle : t ≤ top
      · go_wp2_with fail
        rw [E.out, E2.out, ← HWQ.out]
        refine (HPR.out _ AQ.out).mono ?_
        rintro e w2 ⟨ya, yk, yc, x0, x1, x2, x3, x5, bb, err, rfl, H2⟩
        have A2 := Lib.hid H2.out.1
        have R2 := Lib.hid (H2.out.2.row RQ.out)
        have C2 := Lib.hid (H2.out.2.ch CQ.out)
        clear g0 g1
        obtain ⟨g0, g1, _, _⟩ := C2.out.cells
        have HL : Hid (Calls Try.prog 11 #[.pointer (some ⟨p, 0, none⟩), .agg #[.int .i64 t, .slice (some ⟨wr.heap.size, 0, none⟩) 1 1]] w2 fun e w' => e = .returned (.int .i64 7) ∧ Hid (AO n w p (prepS s (top + 1) (1 + i) 2) w' ∧ KAc w2 w')) :=
          ao_lrn A2.out t _ [((t % 5 : Nat) : Int)] _ R2.out.ints (Nat.le_refl _) (by simp) (by rw [lrnS, if_neg (by rw [lrn_one SK2.out.2 SK2.out.1 ht, if_pos hle]; decide)]) (by rw [lrn_one SK2.out.2 SK2.out.1 ht, if_pos hle])
        have hle' : (t : Int) ≤ (top : Int) := by omega
        have hle2 : ¬ ((top : Int) < (t : Int)) := by omega
        go_wp2_with fail
        clear g0 g1
        refine HL.out.mono ?_
        rintro e w3 ⟨rfl, H3⟩
        go_wp2_with fail
        go_roundw
        case rel => exact ⟨i + 1, top, prepS s (top + 1) (1 + i) 2, rfl, by go_num, by omega, by omega, htop, H3.out.1, SK2.out.1, SK2.out.2⟩
        case measure => simp [intOf]; omega
      · go_wp2_with fail
        rw [E.out, E2.out, ← HWQ.out]
        refine (HPR.out _ AQ.out).mono ?_
        rintro e w2 ⟨ya, yk, yc, x0, x1, x2, x3, x5, bb, err, rfl, H2⟩
        have A2 := Lib.hid H2.out.1
        have R2 := Lib.hid (H2.out.2.row RQ.out)
        have C2 := Lib.hid (H2.out.2.ch CQ.out)
        clear g0 g1
        obtain ⟨g0, g1, _, _⟩ := C2.out.cells
        have HL : Hid (Calls Try.prog 11 #[.pointer (some ⟨p, 0, none⟩), .agg #[.int .i64 t, .slice (some ⟨wr.heap.size, 0, none⟩) 1 1]] w2 fun e w' => e = .returned (.int .i64 0) ∧ Hid (AO n w p ⟨5, t, [((t % 5 : Nat) : Int)], VoteV.zero⟩ w' ∧ KAc w2 w')) :=
          ao_lrn A2.out t _ [((t % 5 : Nat) : Int)] _ R2.out.ints (Nat.le_refl _) (by simp) (by rw [lrnS, if_pos (by rw [lrn_one SK2.out.2 SK2.out.1 ht, if_neg hle]), SK2.out.2]) (by rw [lrn_one SK2.out.2 SK2.out.1 ht, if_neg hle])
        have hle2 : (top : Int) < (t : Int) := by omega
        go_wp2_with fail
        clear g0 g1
        refine HL.out.mono ?_
        rintro e w3 ⟨rfl, H3⟩
        have C3 := Lib.hid (H3.out.2.ch C2.out)
        have R3 := Lib.hid (H3.out.2.row R2.out)
        have HV : Hid (Calls Try.prog 12 #[.pointer (some ⟨p, 0, none⟩)] w3 fun e w' => ∃ a k c, e = .returned (.agg #[.int .i64 0, .int .i64 0, .int .i64 0, .int .i64 0, .bool false, .int .i64 0, .slice a k c]) ∧ Hid (AO n w p ⟨5, t, [((t % 5 : Nat) : Int)], VoteV.zero⟩ w' ∧ Below w3.heap.size w3 w')) := (ao_vote H3.out.1).mono fun _ _ ⟨a, k, c, he, hh⟩ => ⟨a, k, c, he, hh.out.2.1, hh.out.2.2⟩
        go_wp2_with fail
        refine HV.out.mono ?_
        rintro e w4 ⟨va, vk, vc, rfl, H4⟩
        obtain ⟨w5, hw5⟩ : ∃ u, u = w4.alloc (.cells #[.int .i64 0, .int .i64 0, .int .i64 0, .int .i64 0, .bool false, .int .i64 0, .slice va vk vc] 32) := ⟨_, rfl⟩
        have b5 : Below w4.heap.size w4 w5 := by rw [hw5]; exact (Below.refl _ _).alloc (Nat.le_refl _) _
        have v5 : VotB w5 w4.heap.size VoteV.zero (.slice va vk vc) := by rw [hw5]; exact VotB.fresh w4 VoteV.zero _
        have A5 := Lib.hid (H4.out.1.on b5)
        have c4 := C3.out.keep H4.out.2 C3.out.lt
        have C5 := Lib.hid (c4.keep b5 c4.lt)
        have R5 := Lib.hid ((R3.out.on H4.out.2).on b5)
        have V5 := Lib.hid v5
        have HW5 := Lib.hid hw5
        have HS : Hid (∀ u, Below w5.heap.size w5 u → (fun u => (u.cell? ⟨w4.heap.size, 0, none⟩ = some (.int .i64 0) ∧ u.cell? ⟨w4.heap.size, 1, none⟩ = some (.int .i64 0) ∧ u.cell? ⟨w4.heap.size, 4, none⟩ = some (.bool false)) ∧ u.cell? ⟨wr.heap.size + 1, 0, none⟩ = some (.int .i64 t) ∧ u.cell? ⟨wr.heap.size + 1, 1, none⟩ = some (.slice (some ⟨wr.heap.size, 0, none⟩) 1 1)) u) := fun u hu => ⟨⟨(V5.out.keep hu V5.out.lt).cells.1, (V5.out.keep hu V5.out.lt).cells.2.1, (V5.out.keep hu V5.out.lt).cells.2.2.2.2.1⟩, (C5.out.keep hu C5.out.lt).cells.1, (C5.out.keep hu C5.out.lt).cells.2.1⟩
        have HK : Hid (∀ u, AO n w p ⟨5, t, [((t % 5 : Nat) : Int)], VoteV.zero⟩ u → Calls Try.prog 14 #[.pointer (some ⟨p, 0, none⟩)] u fun e w' => ∃ a k c, e = .returned (.agg #[.int .i64 t, .slice a k c]) ∧ Hid (RowI w' (.slice a k c) [((t % 5 : Nat) : Int)] ∧ AO n w p ⟨5, t, [((t % 5 : Nat) : Int)], VoteV.zero⟩ w' ∧ Below u.heap.size u w')) := fun u hu => ao_known hu
        have HSC : Hid (∀ u v1 v2, RowI u v1 [((t % 5 : Nat) : Int)] → RowI u v2 [((t % 5 : Nat) : Int)] → Calls Try.prog 13 #[.agg #[.int .i64 t, v1], .agg #[.int .i64 t, v2]] u fun e w' => e = .returned (.bool true) ∧ Below u.heap.size u w') := fun u v1 v2 h1 h2 => by
          have := refsame_any t t v1 v2 _ _ u.heap.size u h1.ints h2.ints (Nat.le_refl _) (by simp)
          simpa using this
        have HNE : Hid (∀ x : World, (binOp .neq 30 (.agg #[.int .i64 0, .int .i64 0]) (.agg #[.int .i64 0, .int .i64 0])).run Try.prog x = .ok (.bool false) x) := fun x => run_ne_ballot 0 0 x
        clear b5 v5 hw5 c4
        obtain ⟨_, _⟩ : True ∧ True := ⟨trivial, trivial⟩
        go_wp2_with fail
        rw [← HW5.out]
        have b0 := (Below.drew (Below.refl w5.heap.size w5))
        have HB0 := Lib.hid b0
        clear b0
        refine wp_region_held_drew (S := (fun u => (u.cell? ⟨w4.heap.size, 0, none⟩ = some (.int .i64 0) ∧ u.cell? ⟨w4.heap.size, 1, none⟩ = some (.int .i64 0) ∧ u.cell? ⟨w4.heap.size, 4, none⟩ = some (.bool false)) ∧ u.cell? ⟨wr.heap.size + 1, 0, none⟩ = some (.int .i64 t) ∧ u.cell? ⟨wr.heap.size + 1, 1, none⟩ = some (.slice (some ⟨wr.heap.size, 0, none⟩) 1 1))) (by kernel_rfl) (HS.out _ HB0.out) (fun hHeld => ?_)
        first
          | (refine held_take 0 79 (v := ?_) rfl rfl (by kernel_rfl) (by kernel_rfl) (by kernel_rfl) (fun _ _ _ h => h) (by assumption) (by rfl) ?_ ?_; rotate_left; (focus (intro w hSw; obtain ⟨⟨hS0, hS1, hS2⟩, hS3, hS4⟩ := hSw; go_simp <;> with_reducible rfl)))
          | refine held_pass 0 79 rfl rfl (by kernel_rfl) (by kernel_rfl) (by kernel_rfl) (fun _ _ _ h => h) (by assumption) (by rfl) ?_
        simp only [Act.put, List.setIfInBounds_toArray, List.set_cons_zero, List.set_cons_succ]
        first
          | (refine held_take 1 80 (v := ?_) rfl rfl (by kernel_rfl) (by kernel_rfl) (by kernel_rfl) (fun _ _ _ h => h) (by assumption) (by rfl) ?_ ?_; rotate_left; (focus (intro w hSw; obtain ⟨⟨hS0, hS1, hS2⟩, hS3, hS4⟩ := hSw; go_simp <;> with_reducible rfl)))
          | refine held_pass 1 80 rfl rfl (by kernel_rfl) (by kernel_rfl) (by kernel_rfl) (fun _ _ _ h => h) (by assumption) (by rfl) ?_
        simp only [Act.put, List.setIfInBounds_toArray, List.set_cons_zero, List.set_cons_succ]
        first
          | (refine held_take 2 81 (v := ?_) rfl rfl (by kernel_rfl) (by kernel_rfl) (by kernel_rfl) (fun _ _ _ h => h) (by assumption) (by rfl) ?_ ?_; rotate_left; (focus (intro w hSw; obtain ⟨⟨hS0, hS1, hS2⟩, hS3, hS4⟩ := hSw; go_simp <;> with_reducible rfl)))
          | refine held_pass 2 81 rfl rfl (by kernel_rfl) (by kernel_rfl) (by kernel_rfl) (fun _ _ _ h => h) (by assumption) (by rfl) ?_
        simp only [Act.put, List.setIfInBounds_toArray, List.set_cons_zero, List.set_cons_succ]
        first
          | (refine held_take 3 82 (v := ?_) rfl rfl (by kernel_rfl) (by kernel_rfl) (by kernel_rfl) (fun _ _ _ h => h) (by assumption) (by rfl) ?_ ?_; rotate_left; (focus (intro w hSw; obtain ⟨⟨hS0, hS1, hS2⟩, hS3, hS4⟩ := hSw; go_simp <;> with_reducible rfl)))
          | refine held_pass 3 82 rfl rfl (by kernel_rfl) (by kernel_rfl) (by kernel_rfl) (fun _ _ _ h => h) (by assumption) (by rfl) ?_
        simp only [Act.put, List.setIfInBounds_toArray, List.set_cons_zero, List.set_cons_succ]
        first
          | (refine held_take 4 83 (v := ?_) rfl rfl (by kernel_rfl) (by kernel_rfl) (by kernel_rfl) (fun _ _ _ h => h) (by assumption) (by rfl) ?_ ?_; rotate_left; (focus (intro w hSw; obtain ⟨⟨hS0, hS1, hS2⟩, hS3, hS4⟩ := hSw; go_simp <;> with_reducible rfl)))
          | refine held_pass 4 83 rfl rfl (by kernel_rfl) (by kernel_rfl) (by kernel_rfl) (fun _ _ _ h => h) (by assumption) (by rfl) ?_
        simp only [Act.put, List.setIfInBounds_toArray, List.set_cons_zero, List.set_cons_succ]
        first
          | (refine held_take 5 84 (v := ?_) rfl rfl (by kernel_rfl) (by kernel_rfl) (by kernel_rfl) (fun _ _ _ h => h) (by assumption) (by rfl) ?_ ?_; rotate_left; (focus (intro w hSw; obtain ⟨⟨hS0, hS1, hS2⟩, hS3, hS4⟩ := hSw; go_simp <;> with_reducible rfl)))
          | refine held_pass 5 84 rfl rfl (by kernel_rfl) (by kernel_rfl) (by kernel_rfl) (fun _ _ _ h => h) (by assumption) (by rfl) ?_
        simp only [Act.put, List.setIfInBounds_toArray, List.set_cons_zero, List.set_cons_succ]
        refine held_take 6 85 (v := .bool false) rfl rfl (by kernel_rfl) (by kernel_rfl) (by kernel_rfl) (fun _ _ _ h => h) (by assumption) (by rfl) (fun u _ => exec_neq_agg _ _ (by kernel_rfl) rfl rfl rfl (HNE.out u)) ?_
        simp only [Act.put, List.setIfInBounds_toArray, List.set_cons_zero, List.set_cons_succ]
        first
          | (refine held_take 7 86 (v := ?_) rfl rfl (by kernel_rfl) (by kernel_rfl) (by kernel_rfl) (fun _ _ _ h => h) (by assumption) (by rfl) ?_ ?_; rotate_left; (focus (intro w hSw; obtain ⟨⟨hS0, hS1, hS2⟩, hS3, hS4⟩ := hSw; go_simp <;> with_reducible rfl)))
          | refine held_pass 7 86 rfl rfl (by kernel_rfl) (by kernel_rfl) (by kernel_rfl) (fun _ _ _ h => h) (by assumption) (by rfl) ?_
        simp only [Act.put, List.setIfInBounds_toArray, List.set_cons_zero, List.set_cons_succ]
        first
          | (refine held_take 8 87 (v := ?_) rfl rfl (by kernel_rfl) (by kernel_rfl) (by kernel_rfl) (fun _ _ _ h => h) (by assumption) (by rfl) ?_ ?_; rotate_left; (focus (intro w hSw; obtain ⟨⟨hS0, hS1, hS2⟩, hS3, hS4⟩ := hSw; go_simp <;> with_reducible rfl)))
          | refine held_pass 8 87 rfl rfl (by kernel_rfl) (by kernel_rfl) (by kernel_rfl) (fun _ _ _ h => h) (by assumption) (by rfl) ?_
        simp only [Act.put, List.setIfInBounds_toArray, List.set_cons_zero, List.set_cons_succ]
        first
          | (refine held_take 9 88 (v := ?_) rfl rfl (by kernel_rfl) (by kernel_rfl) (by kernel_rfl) (fun _ _ _ h => h) (by assumption) (by rfl) ?_ ?_; rotate_left; (focus (intro w hSw; obtain ⟨⟨hS0, hS1, hS2⟩, hS3, hS4⟩ := hSw; go_simp <;> with_reducible rfl)))
          | refine held_pass 9 88 rfl rfl (by kernel_rfl) (by kernel_rfl) (by kernel_rfl) (fun _ _ _ h => h) (by assumption) (by rfl) ?_
        simp only [Act.put, List.setIfInBounds_toArray, List.set_cons_zero, List.set_cons_succ]
        first
          | (refine held_take 11 90 (v := ?_) rfl rfl (by kernel_rfl) (by kernel_rfl) (by kernel_rfl) (fun _ _ _ h => h) (by assumption) (by rfl) ?_ ?_; rotate_left; (focus (intro w hSw; obtain ⟨⟨hS0, hS1, hS2⟩, hS3, hS4⟩ := hSw; go_simp <;> with_reducible rfl)))
          | refine held_pass 11 90 rfl rfl (by kernel_rfl) (by kernel_rfl) (by kernel_rfl) (fun _ _ _ h => h) (by assumption) (by rfl) ?_
        simp only [Act.put, List.setIfInBounds_toArray, List.set_cons_zero, List.set_cons_succ]
        refine held_call 10 89 rfl rfl (by kernel_rfl) (by rfl) (fun K hK => ?_)
        simp only [Go.wp_at_succ, Go.wp_at_zero]
        go_simp
        refine (HK.out _ ?k1).mono ?_
        case k1 => exact A5.out.on HB0.out
        rintro e w6 ⟨ka, kk, kc, rfl, H6⟩
        have HB6 := Lib.hid (HB0.out.trans (H6.out.2.2.mono HB0.out.size))
        first | (with_reducible refine hK.out _ _ ?_ (fun hHeld => ?_)) | (go_wp2_with fail; refine hK.out _ _ ?_ (fun hHeld => ?_))
        · exact HS.out _ HB6.out
        clear hK K
        try simp only [Act.put, List.setIfInBounds_toArray, List.set_cons_zero, List.set_cons_succ]
        refine held_call 12 91 rfl rfl (by kernel_rfl) (by rfl) (fun K hK => ?_)
        simp only [Go.wp_at_succ, Go.wp_at_zero]
        go_simp
        refine (HSC.out _ _ _ H6.out.1 ?k2).mono ?_
        case k2 => exact R5.out.on HB6.out
        rintro e w7 ⟨rfl, B7⟩
        have HB7 := Lib.hid (HB6.out.trans (B7.mono HB6.out.size))
        have A7 := Lib.hid (H6.out.2.1.on B7)
        clear B7
        first | (with_reducible refine hK.out _ _ ?_ (fun hHeld => ?_)) | (go_wp2_with fail; refine hK.out _ _ ?_ (fun hHeld => ?_))
        · exact HS.out _ HB7.out
        clear hK K
        try simp only [Act.put, List.setIfInBounds_toArray, List.set_cons_zero, List.set_cons_succ]
        first
          | (refine held_take 13 92 (v := ?_) rfl rfl (by kernel_rfl) (by kernel_rfl) (by kernel_rfl) (fun _ _ _ h => h) (by assumption) (by rfl) ?_ ?_; rotate_left; (focus (intro w hSw; obtain ⟨⟨hS0, hS1, hS2⟩, hS3, hS4⟩ := hSw; go_simp <;> with_reducible rfl)))
          | refine held_pass 13 92 rfl rfl (by kernel_rfl) (by kernel_rfl) (by kernel_rfl) (fun _ _ _ h => h) (by assumption) (by rfl) ?_
        simp only [Act.put, List.setIfInBounds_toArray, List.set_cons_zero, List.set_cons_succ]
        first
          | (refine held_take 14 93 (v := ?_) rfl rfl (by kernel_rfl) (by kernel_rfl) (by kernel_rfl) (fun _ _ _ h => h) (by assumption) (by rfl) ?_ ?_; rotate_left; (focus (intro w hSw; obtain ⟨⟨hS0, hS1, hS2⟩, hS3, hS4⟩ := hSw; go_simp <;> with_reducible rfl)))
          | refine held_pass 14 93 rfl rfl (by kernel_rfl) (by kernel_rfl) (by kernel_rfl) (fun _ _ _ h => h) (by assumption) (by rfl) ?_
        simp only [Act.put, List.setIfInBounds_toArray, List.set_cons_zero, List.set_cons_succ]
        refine wpAnyH_done (by kernel_rfl) ?_ _
        go_wp2_with fail
        go_roundw
        case rel => exact ⟨i + 1, t, ⟨5, t, [((t % 5 : Nat) : Int)], VoteV.zero⟩, rfl, by go_num, by omega, by omega, ht, A7.out, rfl, rfl⟩
        case measure => simp [intOf]; omega

set_option maxRecDepth 100000 in
theorem lifted (os : Os) (started : os.Started) (H : Type) (enc : TypeId × Value → H) :
    ReturnsInHanded {} Try.checked os 3 .any (Rows.acceptLearnsSpec.pre6 enc Try.prog Try.f3 Rows.acceptLearnsRow.domain false) (Rows.acceptLearnsSpec.post enc Try.prog Try.f3 false true false false) := by
  refine returnsInHanded_of_change (C := Try.checked) own started (by kernel_rfl) Try.func3
    (ChangeSpec.witness6 (enc := enc) (C := Try.checked) false ⟨#[], #[.slice none 0 0], []⟩ 8 (by kernel_rfl) (by kernel_rfl) (by kernel_rfl) (by kernel_rfl)) ?_
  intro W base args ds gs before hval0 hW hcnd _
  have hval : ∀ (j : Nat) t v, Try.f3.params[j]? = some t → args[j]? = some v → Value.okWide Try.prog W .any base t v := hval0
  have hW' := hW
  obtain ⟨p, q, hA0, hV, rfl, hfz, hnd⟩ := hW
  have hA : DataW.TrodAll enc Try.prog W 0 (fun _ => true) true Try.f3.params.toList args.toList ds p := hA0
  rw [Try.params3] at hA hval
  obtain ⟨v0, vs0, d0, ds0, p0, q0, hargs, rfl, rfl, h0, r0⟩ := trodAll_cons hA
  obtain ⟨rfl, rfl, rfl⟩ := trodAll_nil r0
  obtain rfl : args = #[v0] := by cases args; simp_all
  obtain ⟨rfl, rfl⟩ := trodVars_none hV
  obtain ⟨a0, len0, cap0, rfl⟩ := okWide_slice Try.underlying22 (hval 0 22 v0 rfl rfl)
  have k0 := h0
  have lt0 : ∀ x ∈ p0, x.block < W.heap.size := by obtain ⟨m, hm⟩ := k0; exact DataW.trod_lt m _ _ _ hm
  obtain ⟨l0, w0⟩ := cints_open h0
  clear hA0 hval0
  refine (walk (.slice a0 len0 cap0) l0 W w0).mono fun e W' ⟨he, bel⟩ => ?_
  subst he
  exact ⟨_, rfl, _, _, _, [], _, [], hW', trodAll_mk1 (shut_bool Try.underlying4 _), (trodAll_cons_mk (Below.trod laidOut (by kernel_rfl) (of_decide_eq_true (by kernel_rfl)) k0 bel lt0) trodAll_mk0), rfl, bel.frame _, fun h => by cases h⟩

theorem over : Rows.acceptLearnsRow.holds Try.pinned (OpenSpec.ofChange Rows.acceptLearnsSpec) :=
  OpenClaim.holds_of_wide 3 Try.f3 rfl rfl rfl rfl rfl rfl rfl ⟨rfl, rfl, rfl, rfl, rfl⟩ rfl rfl rfl rfl rfl (by kernel_rfl) Try.func3 (by kernel_rfl)
    (of_decide_eq_true (by kernel_rfl)) (by unfold Func.isWrapper; first | (rw [if_pos (by decide +kernel)]; kernel_rfl) | (rw [if_neg (by decide +kernel)]; exact ⟨rfl, rfl⟩))
    (fun os started H enc _ => lifted os started H enc)
end Go.Proofs.Ytaaffceanjpmbaa.AcceptLearns

namespace Go.Proofs.Ytaaffceanjpmbaa
theorem acceptLearns_holds : Rows.AcceptLearnsSaid := AcceptLearns.over
#print axioms acceptLearns_holds
end Go.Proofs.Ytaaffceanjpmbaa
