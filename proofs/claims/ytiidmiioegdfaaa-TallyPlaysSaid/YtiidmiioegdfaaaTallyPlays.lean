/-
  PROVED: casebooklaw14.TallyPlays answers true and leaves its arguments as they were, for any number, ballot, chain and steps: the row's own reading and nothing else is assumed.
-/
import Derived.Test.YtiidmiioegdfaaaTalY
import Derived.Test.YtiidmiioegdfaaaTalT
import Derived.Test.YtiidmiioegdfaaaItemArgs
namespace Go.Proofs.Ytiidmiioegdfaaa.TallyPlays
open Go.ChangeShapes Go.WideShapes Go.ChangeAt Go.RowKit

/-- Block b holds a step. -/
def YOpB (w : World) (b : Nat) (o : YStepV) : Prop := w.heap[b]? = some (.cells #[.int .i64 o.kind, .int .i64 o.node, .int .i64 o.v.pr, .int .i64 o.v.pn, .int .i64 o.v.ar, .int .i64 o.v.an, .bool o.v.has, .int .i64 o.v.ce, o.c] 42 (0, 0))
theorem YOpB.lt {w : World} {b : Nat} {o : YStepV} (h : YOpB w b o) : b < w.heap.size := lt_of_block h
theorem YOpB.on {w w' : World} {b : Nat} {o : YStepV} (h : YOpB w b o) (hb : Below w.heap.size w w') : YOpB w' b o := (hb.block b h.lt).trans h
theorem YOpB.k {w w' : World} {b : Nat} {o : YStepV} (h : YOpB w b o) (hk : KPM w w') : YOpB w' b o := hk.same _ _ _ h (by decide) (by decide) (by decide) (by decide)
theorem YOpB.cells {w : World} {b : Nat} {o : YStepV} (h : YOpB w b o) : w.cell? ⟨b, 0, none⟩ = some (.int .i64 o.kind) ∧ w.cell? ⟨b, 1, none⟩ = some (.int .i64 o.node) ∧ w.cell? ⟨b, 2, none⟩ = some (.int .i64 o.v.pr) ∧ w.cell? ⟨b, 3, none⟩ = some (.int .i64 o.v.pn) ∧ w.cell? ⟨b, 4, none⟩ = some (.int .i64 o.v.ar) ∧ w.cell? ⟨b, 5, none⟩ = some (.int .i64 o.v.an) ∧ w.cell? ⟨b, 6, none⟩ = some (.bool o.v.has) ∧ w.cell? ⟨b, 7, none⟩ = some (.int .i64 o.v.ce) ∧ w.cell? ⟨b, 8, none⟩ = some o.c := by
  have h' : w.heap[b]? = some (.cells #[.int .i64 o.kind, .int .i64 o.node, .int .i64 o.v.pr, .int .i64 o.v.pn, .int .i64 o.v.ar, .int .i64 o.v.an, .bool o.v.has, .int .i64 o.v.ce, o.c] 42 (0, 0)) := h
  refine ⟨?_, ?_, ?_, ?_, ?_, ?_, ?_, ?_, ?_⟩ <;> simp [World.cell?, h']
theorem c_ne {s : TalV} {d : RefV} (hr : RelT s d) (h1 : d.C ≠ []) (h2 : ∀ x ∈ d.V, x.v.has = true → x.v.C ≠ []) (h3 : ∀ i : Nat, bestI d.V d.V.length = (i : Int) → (wat d.V i).v.has = true ∧ wat d.V i ∈ d.V) : s.C ≠ [] := by
  rcases hr.best with ⟨_, _, b3⟩ | ⟨bn, b1, _, _, _, _, b6⟩
  · rw [b3]; exact h1
  · rw [b6]
    obtain ⟨a, b⟩ := h3 bn b1
    exact h2 _ b a
/-- What stands at the head of a round. -/
structure PS (n : Nat) (w : World) (p X _q : Nat) (mm : Int) (i : Nat) (s : TalV) (d : RefV) (u : World) : Prop where
  m : PM n w p X s d u
  r : RelT s d
  n : d.n = mm
  c : s.C ≠ []
  v : d.V.length ≤ i
theorem pro_c {s : TalV} (h : s.C ≠ []) (x : Int) (v : VoteV) : (proS s x v).C ≠ [] := by
  unfold proS
  split
  · rename_i hb
    split
    · rename_i h2
      unfold proB at hb
      simp only [Bool.and_eq_true] at hb
      have hf := of_decide_eq_true hb.1.2
      have hh : v.has = true := by unfold TalV.better at h2; simp only [Bool.and_eq_true] at h2; exact h2.1
      have hm := (hf.2 hh).2.1
      intro e
      have := hm.2.2.1
      have e' : v.C = [] := e
      rw [show (ChainV.mk v.ce v.C).nodes = v.C from rfl, e'] at this
      simp at this
    · exact h
  · exact h
theorem yes_c {s : TalV} (h : s.C ≠ []) (x : Int) : (yesS s x).C ≠ [] := by
  unfold yesS
  split <;> exact h
theorem ysteps_cell {w : World} {B : Nat} {a : Option Addr} {c : Nat} {L : List YStepV} (h : YSteps w B (.slice a L.length c) L) {i : Nat} (hi : i < L.length) : ∃ b off, a = some ⟨b, off, none⟩ ∧ b < B ∧ YStepCells w b (off + i * 9) L[i] ∧ Wf L[i].v.ce ∧ Ints w B L[i].c L[i].v.C := by
  obtain ⟨ao, cap, he, _, hf, hc⟩ := h
  simp only [Value.slice.injEq] at he
  obtain ⟨b, off, e, hb, hcell⟩ := hc (fun e => by rw [e] at hi; simp at hi)
  exact ⟨b, off, he.1.trans e, hb, hcell i hi, hf _ (List.getElem_mem hi)⟩
theorem neq_bool (a b : Bool) (w : World) : (binOp .neq 4 (.bool a) (.bool b)).run Try.prog w = .ok (.bool (a != b)) w := by cases a <;> cases b <;> kernel_rfl


set_option maxRecDepth 100000 in
set_option maxHeartbeats 8000000 in
theorem out (a r k ce : Int) (va : Option Addr) (vl vc : Nat) (C : List Int) (sv : Value) (w : World) (hw : (Lit.int .i64 a).wf = true) (hcw : -9223372036854775808 ≤ ce ∧ ce ≤ 9223372036854775807) (hI : Ints w w.heap.size (.slice va vl vc) C) (sa : Option Addr) (sl sc : Nat) (hsv : sv = .slice sa sl sc)
    (h : 8 < vl ∨ ¬ (1 ≤ a ∧ a ≤ 5 ∧ mayV r k = true ∧ ChainV.may ⟨ce, C⟩)) :
    Calls Try.prog 3 #[.int .i64 a, .agg #[.int .i64 r, .int .i64 k], .agg #[.int .i64 ce, .slice va vl vc], sv] w fun e w' => e = .returned (.bool true) ∧ Below w.heap.size w w' := by
  subst hsv
  have HT := Lib.hid (fun u => told14_any u)
  obtain ⟨W, hW⟩ : ∃ W, W = (w.alloc (.cells #[.int .i64 r, .int .i64 k] 23)).alloc (.cells #[.int .i64 ce, .slice va vl vc] 26) := ⟨_, rfl⟩
  have hBW : Below w.heap.size w W := by rw [hW]; exact ((Below.refl _ w).alloc (Nat.le_refl _) _).alloc (by simp) _
  have qW : BalB W w.heap.size r k := by rw [hW]; exact (BalB.fresh w r k).keep ((Below.refl _ _).alloc (Nat.le_refl _) _) (by simp)
  have cW : ChT W (w.heap.size + 1) ce (.slice va vl vc) := by
    rw [hW]
    have h := ChT.fresh (w.alloc (.cells #[.int .i64 r, .int .i64 k] 23)) ce (.slice va vl vc)
    rwa [World.size_alloc] at h
  have HBW := Lib.hid hBW
  obtain ⟨g0, g1, _, _⟩ := qW.cells
  obtain ⟨g2, g3, _, _⟩ := cW.cells
  rw [hW] at g0 g1 g2 g3
  have HWW := Lib.hid hW
  have HQ := Lib.hid qW
  have HC := Lib.hid cW
  by_cases h8 : 8 < vl
  · clear h hI hcw hBW qW cW hW hw
    go_enter Try.func3, Try.ntmps3
    go_wp2_with fail
    rw [← HWW.out]
    refine (HT.out _).mono ?_
    rintro e w1 ⟨rfl, B1⟩
    go_wp2
    go_returns
    exact ⟨by first | rfl | trivial, HBW.out.trans (B1.mono HBW.out.size)⟩
  have h' : ¬ (1 ≤ a ∧ a ≤ 5 ∧ mayV r k = true ∧ ChainV.may ⟨ce, C⟩) := h.resolve_left h8
  have HN : Hid (Calls Try.prog 9 #[.int .i64 a, .agg #[.int .i64 r, .int .i64 k], .agg #[.int .i64 ce, .slice va vl vc]] W fun e w' => e = .returned (.tuple #[.pointer none, .int .i64 1]) ∧ Below W.heap.size W w') := tynew_no a r k ce _ C w.heap.size W (hI.keep hBW) hBW.size hcw.1 hcw.2 h'
  obtain ⟨mo, hmo⟩ : ∃ m, m = mostV a := ⟨_, rfl⟩
  have hwa : a ≤ 9223372036854775807 := by simp [Lit.wf, IntKind.min, IntKind.max, IntKind.signed, IntKind.bits] at hw; omega
  have HM1 : Hid (∀ u, Calls Try.prog 12 #[.int .i64 a] u fun e w' => e = .returned (.int .i64 mo) ∧ u = w') := fun u => tymost_r a u hwa hmo.symm
  have HM2 : Hid (∀ u, Calls Try.prog 13 #[.int .i64 a] u fun e w' => e = .returned (.int .i64 mo) ∧ u = w') := fun u => rymost_r a u hwa hmo.symm
  obtain ⟨M, hM⟩ : ∃ M, M = mayV r k := ⟨_, rfl⟩
  obtain ⟨Y, hY⟩ : ∃ Y, Y = decide (ChainV.may ⟨ce, C⟩) := ⟨_, rfl⟩
  have HMM : Hid (∀ u, Calls Try.prog 10 #[.agg #[.int .i64 r, .int .i64 k]] u fun e w' => e = .returned (.bool M) ∧ Below u.heap.size u w') := fun u => rvmay_r r k u hM.symm
  have HYY : Hid (∀ u, Below w.heap.size w u → Calls Try.prog 11 #[.agg #[.int .i64 ce, .slice va vl vc]] u fun e w' => e = .returned (.bool Y) ∧ Below u.heap.size u w') := fun u hu =>
    refmaychain_r ce _ C w.heap.size u (hI.keep hu) hu.size Y hY
  have HNO : Hid (1 ≤ a → a ≤ 5 → M = true → Y = true → False) := fun h1 h2 h3 h4 => h' ⟨h1, h2, by rw [← hM]; exact h3, of_decide_eq_true (by rw [← hY]; exact h4)⟩
  have v8 : ¬ (8 < (vl : Int)) := by omega
  clear h h' hI hcw hBW qW cW hW hw hM hY hmo hwa
  go_enter Try.func3, Try.ntmps3
  go_wp2_with fail
  rw [← HWW.out]
  refine HN.out.mono ?_
  rintro e w1 ⟨rfl, B1⟩
  have C1 := Lib.hid (HBW.out.trans (B1.mono HBW.out.size))
  have Q1 := Lib.hid (HQ.out.keep B1 HQ.out.lt)
  have K1 := Lib.hid (HC.out.keep B1 HC.out.lt)
  clear B1 g0 g1 g2 g3
  obtain ⟨g0, g1, _, _⟩ := Q1.out.cells
  obtain ⟨g2, g3, _, _⟩ := K1.out.cells
  by_cases a1 : a < 1
  · go_wp2_with fail
    refine (HT.out _).mono ?_
    rintro e w2 ⟨rfl, B2⟩
    have C2 := Lib.hid (C1.out.trans (B2.mono C1.out.size))
    clear B2
    go_wp2_with fail
    refine (HM1.out _).mono ?_
    rintro e w3 ⟨rfl, rfl⟩
    go_wp2_with fail
    refine (HM2.out _).mono ?_
    rintro e w4 ⟨rfl, rfl⟩
    go_wp2
    go_returns
    exact ⟨by first | rfl | trivial, C2.out⟩
  by_cases a5 : 5 < a
  · go_wp2_with fail
    refine (HT.out _).mono ?_
    rintro e w2 ⟨rfl, B2⟩
    have C2 := Lib.hid (C1.out.trans (B2.mono C1.out.size))
    clear B2
    go_wp2_with fail
    refine (HM1.out _).mono ?_
    rintro e w3 ⟨rfl, rfl⟩
    go_wp2_with fail
    refine (HM2.out _).mono ?_
    rintro e w4 ⟨rfl, rfl⟩
    go_wp2
    go_returns
    exact ⟨by first | rfl | trivial, C2.out⟩
  cases M with
  | false =>
    go_wp2_with fail
    refine (HMM.out _).mono ?_
    rintro e w1' ⟨rfl, B1⟩
    have C1' := Lib.hid (C1.out.trans (B1.mono C1.out.size))
    clear B1
    go_wp2_with fail
    refine (HT.out _).mono ?_
    rintro e w2 ⟨rfl, B2⟩
    have C2 := Lib.hid (C1'.out.trans (B2.mono C1'.out.size))
    clear B2
    go_wp2_with fail
    refine (HM1.out _).mono ?_
    rintro e w3 ⟨rfl, rfl⟩
    go_wp2_with fail
    refine (HM2.out _).mono ?_
    rintro e w4 ⟨rfl, rfl⟩
    go_wp2
    go_returns
    exact ⟨by first | rfl | trivial, C2.out⟩
  | true =>
    cases Y with
    | true => exact absurd (HNO.out (by omega) (by omega) rfl rfl) (fun h => h)
    | false =>
      go_wp2_with fail
      refine (HMM.out _).mono ?_
      rintro e w1' ⟨rfl, B1⟩
      have C1' := Lib.hid (C1.out.trans (B1.mono C1.out.size))
      have K1' := Lib.hid (K1.out.keep B1 K1.out.lt)
      clear B1 g0 g1 g2 g3
      obtain ⟨g2, g3, _, _⟩ := K1'.out.cells
      go_wp2_with fail
      refine (HYY.out _ C1'.out).mono ?_
      rintro e w1'' ⟨rfl, B1⟩
      have C1'' := Lib.hid (C1'.out.trans (B1.mono C1'.out.size))
      clear B1
      go_wp2_with fail
      refine (HT.out _).mono ?_
      rintro e w2 ⟨rfl, B2⟩
      have C2 := Lib.hid (C1''.out.trans (B2.mono C1''.out.size))
      clear B2
      go_wp2_with fail
      refine (HM1.out _).mono ?_
      rintro e w3 ⟨rfl, rfl⟩
      go_wp2_with fail
      refine (HM2.out _).mono ?_
      rintro e w4 ⟨rfl, rfl⟩
      go_wp2
      go_returns
      exact ⟨by first | rfl | trivial, C2.out⟩

set_option maxRecDepth 100000 in
set_option maxHeartbeats 16000000 in
theorem main (mm : Nat) (h1 : 1 ≤ mm) (h5 : mm ≤ 5) (r k ce : Int) (va : Option Addr) (vl vc : Nat) (C : List Int) (sv : Value) (l : List YStepV) (w : World) (hI : Ints w w.heap.size (.slice va vl vc) C) (hm : mayV r k = true) (hmay : ChainV.may ⟨ce, C⟩) (hS : YSteps w w.heap.size sv l) :
    Calls Try.prog 3 #[.int .i64 mm, .agg #[.int .i64 r, .int .i64 k], .agg #[.int .i64 ce, .slice va vl vc], sv] w fun e w' => e = .returned (.bool true) ∧ Below w.heap.size w w' := by
  have HT := Lib.hid (fun u => told14_any u)
  obtain ⟨a0, c0, rfl⟩ : ∃ a c, sv = .slice a l.length c := by obtain ⟨a, c, h, _⟩ := hS; exact ⟨a, c, h⟩
  have hvl : vl = C.length := by obtain ⟨_, _, he, _⟩ := hI; simp only [Value.slice.injEq] at he; exact he.2.1
  have hC5 : C.length ≤ 5 := hmay.2.2.2.1
  have hC1 : 1 ≤ C.length := hmay.2.2.1
  obtain ⟨q, hq⟩ : ∃ q, q = l.length := ⟨_, rfl⟩
  obtain ⟨n, hn⟩ : ∃ n, n = w.heap.size := ⟨_, rfl⟩
  obtain ⟨W, hW⟩ : ∃ W, W = (w.alloc (.cells #[.int .i64 r, .int .i64 k] 23)).alloc (.cells #[.int .i64 ce, .slice va vl vc] 26) := ⟨_, rfl⟩
  have hBW : Below w.heap.size w W := by rw [hW]; exact ((Below.refl _ w).alloc (Nat.le_refl _) _).alloc (by simp) _
  have qW : BalB W w.heap.size r k := by rw [hW]; exact (BalB.fresh w r k).keep ((Below.refl _ _).alloc (Nat.le_refl _) _) (by simp)
  have cW : ChT W (w.heap.size + 1) ce (.slice va vl vc) := by
    rw [hW]
    have h := ChT.fresh (w.alloc (.cells #[.int .i64 r, .int .i64 k] 23)) ce (.slice va vl vc)
    rwa [World.size_alloc] at h
  have HN : Hid (Calls Try.prog 9 #[.int .i64 mm, .agg #[.int .i64 r, .int .i64 k], .agg #[.int .i64 ce, .slice va vl vc]] W fun e w' => ∃ p, e = .returned (.tuple #[.pointer (some ⟨p, 0, none⟩), .int .i64 0]) ∧ Hid ((∃ pm ym cv, TalR w' p pm ym cv (TalV.first mm r k ce C) ∧ W.heap.size ≤ p ∧ W.heap.size ≤ pm ∧ W.heap.size ≤ ym ∧ Fresh W.heap.size cv) ∧ Below W.heap.size W w')) := tynew_r mm h1 h5 r k hm ce _ C w.heap.size W (hI.keep hBW) hBW.size hmay
  have HMM : Hid (∀ u, Calls Try.prog 10 #[.agg #[.int .i64 r, .int .i64 k]] u fun e w' => e = .returned (.bool true) ∧ Below u.heap.size u w') := fun u => rvmay_r r k u hm
  have HYY : Hid (∀ u, Below w.heap.size w u → Calls Try.prog 11 #[.agg #[.int .i64 ce, .slice va vl vc]] u fun e w' => e = .returned (.bool true) ∧ Below u.heap.size u w') := fun u hu =>
    refmaychain_r ce _ C w.heap.size u (hI.keep hu) hu.size true (decide_eq_true hmay).symm
  obtain ⟨mo, hmo⟩ : ∃ m, m = mostV mm := ⟨_, rfl⟩
  have HMO : Hid (∀ u, Calls Try.prog 13 #[.int .i64 mm] u fun e w' => e = .returned (.int .i64 mo) ∧ u = w') := fun u => rymost_r mm u (by omega) hmo.symm
  have HBW := Lib.hid hBW
  have HWW := Lib.hid hW
  have HQ := Lib.hid qW
  have HC := Lib.hid cW
  have HIN := Lib.hid hI
  have HSS := Lib.hid hS
  have HQL := Lib.hid hq
  have HNN := Lib.hid hn
  have HMOV := Lib.hid hmo
  have HMAY := Lib.hid hmay
  have v8 : ¬ (8 < (vl : Int)) := by omega
  have n1 : ¬ ((mm : Int) < 1) := by omega
  have n5 : ¬ (5 < (mm : Int)) := by omega
  obtain ⟨g0, g1, _, _⟩ := qW.cells
  obtain ⟨g2, g3, _, _⟩ := cW.cells
  rw [hW] at g0 g1 g2 g3
  rw [← hq]
  clear hvl hC5 hq hn hBW qW cW hW hmo hm hmay hI hS
  go_enter Try.func3, Try.ntmps3
  go_wp2_with fail
  rw [← HWW.out]
  refine HN.out.mono ?_
  rintro e w1 ⟨p, rfl, H1⟩
  have C1 := Lib.hid (HBW.out.trans (H1.out.2.mono HBW.out.size))
  have Q1 := Lib.hid (HQ.out.keep H1.out.2 HQ.out.lt)
  have K1 := Lib.hid (HC.out.keep H1.out.2 HC.out.lt)
  clear g0 g1 g2 g3
  obtain ⟨g0, g1, _, _⟩ := Q1.out.cells
  obtain ⟨g2, g3, _, _⟩ := K1.out.cells
  go_wp2_with fail
  refine (HMM.out _).mono ?_
  rintro e w2 ⟨rfl, B2⟩
  have HB2 := Lib.hid B2
  have C2 := Lib.hid (C1.out.trans (B2.mono C1.out.size))
  have Q2 := Lib.hid (Q1.out.keep B2 Q1.out.lt)
  have K2 := Lib.hid (K1.out.keep B2 K1.out.lt)
  clear B2 g0 g1 g2 g3
  obtain ⟨g2, g3, _, _⟩ := K2.out.cells
  go_wp2_with fail
  refine (HYY.out _ C2.out).mono ?_
  rintro e w3 ⟨rfl, B3⟩
  have C3 := Lib.hid (C2.out.trans (B3.mono C2.out.size))
  have Q3 := Lib.hid (Q2.out.keep B3 Q2.out.lt)
  have K3 := Lib.hid (K2.out.keep B3 K2.out.lt)
  obtain ⟨X, hX⟩ : ∃ X, X = w3.heap.size := ⟨_, rfl⟩
  obtain ⟨y4, hy4⟩ : ∃ y, y = w3.alloc (.cells #[.int .i64 mm, .int .i64 r, .int .i64 k, .int .i64 ce, .slice va vl vc, .slice none 0 0, .slice none 0 0, .slice none 0 0] 38) := ⟨_, rfl⟩
  have by4 : Below w3.heap.size w3 y4 := by rw [hy4]; exact (Below.refl _ _).alloc (Nat.le_refl _) _
  have P4 : Hid (PS n w p X 0 mm 0 (TalV.first mm r k ce C) ⟨mm, r, k, ce, .slice va vl vc, C, [], [], []⟩ y4) := by
    obtain ⟨⟨pm, ym, cv, a, b, c, d, e⟩, hb⟩ := H1.out
    have hWs := HBW.out.size
    rw [← HNN.out] at hWs
    have hb13 : Below w1.heap.size w1 y4 := (HB2.out.trans (B3.mono HB2.out.size)).trans (by4.mono (Nat.le_trans HB2.out.size B3.size))
    refine ⟨⟨⟨pm, ym, cv, .slice none 0 0, .slice none 0 0, .slice none 0 0, a.on hb13, by omega, by omega, by omega, ⟨?_, ?_, World.ownsRow_nil _ _ _ _, World.ownsRow_nil _ _ _ _, World.ownsRow_nil _ _ _ _, fun b hb => by simp [Value.ownBlock] at hb, ?_, ?_, by rw [HNN.out]; exact Nat.le_refl _, by rw [HNN.out]; exact HIN.out, fun x hx => by cases hx⟩, fun b _ => ⟨by simp [Value.ownBlock], by simp [Value.ownBlock]⟩⟩, TalV.ok_first h1 h5 HMAY.out.2.2.2.1⟩,
      ⟨rfl, ⟨rfl, rfl⟩, rfl, rfl, rfl, .inl ⟨by show (-1 : Int) < 0; omega, rfl, rfl⟩⟩, rfl, ?_, Nat.le_refl _⟩
    · show _ = _
      rw [hy4, hX]
      exact heap_alloc_new w3 _
    · rw [hX, HNN.out]; exact C3.out.size
    · rw [HNN.out]; exact C3.out.trans (by4.mono C3.out.size)
    · rw [HNN.out]; exact Nat.le_trans C3.out.size by4.size
    · intro e'
      have : C = [] := e'
      rw [this] at hC1
      simp at hC1
  have HY4 := Lib.hid hy4
  have HX := Lib.hid hX
  clear B3 g2 g3 hX hy4 by4
  obtain ⟨g0, g1, _, _⟩ := Q3.out.cells
  obtain ⟨g2, g3, _, _⟩ := K3.out.cells
  go_wp2_with fail
  rw [← HX.out, ← HY4.out]
  clear g0 g1 g2 g3
  go_loopw [12] (fun s12 wr => ∃ (i : Nat) (s : TalV) (d : RefV), s12 = .int .i64 i ∧ i ≤ q ∧ i ≤ 40 ∧ Hid (PS n w p X 0 mm i s d wr)) (fun s12 _ => q - (intOf s12).toNat)
  case atStart => exact ⟨0, _, _, rfl, by omega, by omega, P4.out⟩
  case round =>
    obtain ⟨i, s, d, rfl, hiq, hi40, HR⟩ := hrel
    by_cases hlt : i < q ∧ i < 40
    · obtain ⟨l1, l2⟩ := hlt
      have i1 : (i : Int) < (q : Int) := by omega
      have i2 : (i : Int) < 40 := by omega
      obtain ⟨ab, off, rfl, hab, hcells, hwf, hoI⟩ := ysteps_cell HSS.out (i := i) (by have := HQL.out; omega)
      obtain ⟨o, ho⟩ : ∃ o, o = l[i]'(by have := HQL.out; omega) := ⟨_, rfl⟩
      rw [← ho] at hcells hwf hoI
      obtain ⟨d0, d1, d2, d3, d4, d5, d6, d7, d8⟩ := hcells.keep HR.out.m.bel (by have := HNN.out; omega)
      obtain ⟨kd, nd, v, c⟩ := o
      simp only at d0 d1 d2 d3 d4 d5 d6 d7 d8 hwf hoI
      obtain ⟨oa, oc, rfl⟩ : ∃ a e, c = .slice a v.C.length e := by obtain ⟨a, e, h, _⟩ := hoI; exact ⟨a, e, h⟩
      obtain ⟨lo, hlo⟩ : ∃ lo, lo = v.C.length := ⟨_, rfl⟩
      obtain ⟨b13, hb13⟩ : ∃ b, b = wr.heap.size := ⟨_, rfl⟩
      obtain ⟨y5, hy5⟩ : ∃ y, y = wr.alloc (.cells #[.int .i64 kd, .int .i64 nd, .int .i64 v.pr, .int .i64 v.pn, .int .i64 v.ar, .int .i64 v.an, .bool v.has, .int .i64 v.ce, .slice oa lo oc] 42) := ⟨_, rfl⟩
      have by5 : Below wr.heap.size wr y5 := by rw [hy5]; exact (Below.refl _ _).alloc (Nat.le_refl _) _
      have oy5 : YOpB y5 b13 ⟨kd, nd, v, .slice oa lo oc⟩ := by rw [hy5, hb13]; exact heap_alloc_new wr _
      have HLO := Lib.hid hlo
      have HB13 := Lib.hid hb13
      have HY5 := Lib.hid hy5
      have OY5 := Lib.hid oy5
      have M5 := Lib.hid (HR.out.m.on by5)
      have HOI : Hid (Ints w n (.slice oa lo oc) v.C) := by show Ints _ _ _ _; rw [hlo, HNN.out]; exact hoI
      have HWF : Hid (-9223372036854775808 ≤ v.ce ∧ v.ce ≤ 9223372036854775807) := hwf
      obtain ⟨z0, z1, z2, z3, z4, z5, z6, z7, z8⟩ := oy5.cells
      rw [hy5, hb13] at z0 z1 z2 z3 z4 z5 z6 z7 z8
      rw [← hlo] at d8
      clear ho hcells hwf hoI hab hlo hb13 hy5 by5 oy5
      by_cases h8 : 8 < lo
      · have h8' : 8 < (lo : Int) := by omega
        go_wp2_with fail
        rw [← HY5.out]
        refine (HT.out _).mono ?_
        rintro e w6 ⟨rfl, B6⟩
        go_wp2
        go_returns
        rw [← HNN.out]
        exact ⟨by first | rfl | trivial, (M5.out.on B6).bel⟩
      have h8' : ¬ (8 < (lo : Int)) := by omega
      have hlF := HR.out.m.len HR.out.r
      have hlV := HR.out.v
      have hCn := HR.out.c
      have hdn := HR.out.n
      obtain ⟨hrp1, hrp2⟩ := relt_pro HR.out.r nd v (.slice oa lo oc)
      obtain ⟨hry1, hry2⟩ := relt_yes HR.out.r nd
      obtain ⟨B, hB⟩ : ∃ B, B = proB s nd v := ⟨_, rfl⟩
      obtain ⟨Z, hZ⟩ : ∃ Z, Z = yesB s nd := ⟨_, rfl⟩
      rw [← hB] at hrp1 hrp2
      rw [← hZ] at hry1 hry2
      have HTP : Hid (∀ u, PM n w p X s d u → Calls Try.prog 14 #[.pointer (some ⟨p, 0, none⟩), .int .i64 nd, .agg #[.int .i64 v.pr, .int .i64 v.pn, .int .i64 v.ar, .int .i64 v.an, .bool v.has, .int .i64 v.ce, .slice oa lo oc]] u fun e w' => e = .returned (.bool B) ∧ Hid (PM n w p X (proS s nd v) d w' ∧ KPM u w')) := fun u hu => by
        rw [hB]; exact pm_tpro hu nd v _ HOI.out HWF.out.1 HWF.out.2 (by have := HLO.out; omega)
      have HRP : Hid (∀ u, PM n w p X (proS s nd v) d u → Calls Try.prog 15 #[.pointer (some ⟨X, 0, none⟩), .int .i64 nd, .agg #[.int .i64 v.pr, .int .i64 v.pn, .int .i64 v.ar, .int .i64 v.an, .bool v.has, .int .i64 v.ce, .slice oa lo oc]] u fun e w' => e = .returned (.bool B) ∧ Hid (PM n w p X (proS s nd v) (proD d nd ⟨v, .slice oa lo oc⟩ B) w' ∧ KPM u w')) := fun u hu =>
        pm_rpro hu (pro_c hCn nd v) (by omega) (by omega) nd v _ HOI.out (by have := HLO.out; omega) hrp1
      have HTY : Hid (∀ u, PM n w p X s d u → Calls Try.prog 16 #[.pointer (some ⟨p, 0, none⟩), .int .i64 nd] u fun e w' => e = .returned (.bool Z) ∧ Hid (PM n w p X (yesS s nd) d w' ∧ KPM u w')) := fun u hu => by
        rw [hZ]; exact pm_tyes hu nd
      have HRY : Hid (∀ u, PM n w p X (yesS s nd) d u → Calls Try.prog 17 #[.pointer (some ⟨X, 0, none⟩), .int .i64 nd] u fun e w' => e = .returned (.bool Z) ∧ Hid (PM n w p X (yesS s nd) (yesD d nd Z) w' ∧ KPM u w')) := fun u hu =>
        pm_ryes hu (yes_c hCn nd) (by omega) (by omega) (by omega) (by omega) nd hry1
      have HPS1 : Hid (∀ u, PM n w p X (proS s nd v) (proD d nd ⟨v, .slice oa lo oc⟩ B) u → PS n w p X 0 mm (i + 1) (proS s nd v) (proD d nd ⟨v, .slice oa lo oc⟩ B) u) := fun u hu =>
        ⟨hu, hrp2, by unfold proD; split <;> exact hdn, pro_c hCn nd v, by
          unfold proD
          split
          · show (d.V ++ [_]).length ≤ i + 1
            rw [List.length_append]
            show d.V.length + 1 ≤ i + 1
            omega
          · show d.V.length ≤ i + 1
            omega⟩
      have HPS2 : Hid (∀ u, PM n w p X (yesS s nd) (yesD d nd Z) u → PS n w p X 0 mm (i + 1) (yesS s nd) (yesD d nd Z) u) := fun u hu =>
        ⟨hu, hry2, by unfold yesD; split <;> exact hdn, yes_c hCn nd, by
          unfold yesD
          split <;> (show d.V.length ≤ i + 1; omega)⟩
      have HSO : Hid (∀ u, YOpB u b13 ⟨kd, nd, v, .slice oa lo oc⟩ → (fun u => u.cell? ⟨b13, 0, none⟩ = some (.int .i64 kd) ∧ u.cell? ⟨b13, 1, none⟩ = some (.int .i64 nd) ∧ u.cell? ⟨b13, 2, none⟩ = some (.int .i64 v.pr) ∧ u.cell? ⟨b13, 3, none⟩ = some (.int .i64 v.pn) ∧ u.cell? ⟨b13, 4, none⟩ = some (.int .i64 v.ar) ∧ u.cell? ⟨b13, 5, none⟩ = some (.int .i64 v.an) ∧ u.cell? ⟨b13, 6, none⟩ = some (.bool v.has) ∧ u.cell? ⟨b13, 7, none⟩ = some (.int .i64 v.ce) ∧ u.cell? ⟨b13, 8, none⟩ = some (.slice oa lo oc)) u) := fun u h => h.cells
      clear hlF hlV hCn hdn hrp1 hrp2 hry1 hry2 hB hZ
      by_cases hk : kd = 0
      · subst hk
        go_wp2_with fail
        rw [← HB13.out, ← HY5.out]
        clear z0 z1 z2 z3 z4 z5 z6 z7 z8 d0 d1 d2 d3 d4 d5 d6 d7 d8
        refine wp_region_held_drew (S := (fun u => u.cell? ⟨b13, 0, none⟩ = some (.int .i64 0) ∧ u.cell? ⟨b13, 1, none⟩ = some (.int .i64 nd) ∧ u.cell? ⟨b13, 2, none⟩ = some (.int .i64 v.pr) ∧ u.cell? ⟨b13, 3, none⟩ = some (.int .i64 v.pn) ∧ u.cell? ⟨b13, 4, none⟩ = some (.int .i64 v.ar) ∧ u.cell? ⟨b13, 5, none⟩ = some (.int .i64 v.an) ∧ u.cell? ⟨b13, 6, none⟩ = some (.bool v.has) ∧ u.cell? ⟨b13, 7, none⟩ = some (.int .i64 v.ce) ∧ u.cell? ⟨b13, 8, none⟩ = some (.slice oa lo oc))) (by kernel_rfl) (HSO.out _ (OY5.out.on (Below.drew (Below.refl _ _)))) (fun hHeld => ?_)
        first
          | (refine held_take 0 94 (v := ?_) rfl rfl (by kernel_rfl) (by kernel_rfl) (by kernel_rfl) (fun _ _ _ h => h) (by assumption) (by rfl) ?_ ?_; rotate_left; (focus (intro w hSw; obtain ⟨hS0, hS1, hS2, hS3, hS4, hS5, hS6, hS7, hS8⟩ := hSw; go_simp <;> with_reducible rfl)))
          | refine held_pass 0 94 rfl rfl (by kernel_rfl) (by kernel_rfl) (by kernel_rfl) (fun _ _ _ h => h) (by assumption) (by rfl) ?_
        simp only [Act.put, List.setIfInBounds_toArray, List.set_cons_zero, List.set_cons_succ]
        first
          | (refine held_take 1 95 (v := ?_) rfl rfl (by kernel_rfl) (by kernel_rfl) (by kernel_rfl) (fun _ _ _ h => h) (by assumption) (by rfl) ?_ ?_; rotate_left; (focus (intro w hSw; obtain ⟨hS0, hS1, hS2, hS3, hS4, hS5, hS6, hS7, hS8⟩ := hSw; go_simp <;> with_reducible rfl)))
          | refine held_pass 1 95 rfl rfl (by kernel_rfl) (by kernel_rfl) (by kernel_rfl) (fun _ _ _ h => h) (by assumption) (by rfl) ?_
        simp only [Act.put, List.setIfInBounds_toArray, List.set_cons_zero, List.set_cons_succ]
        first
          | (refine held_take 2 96 (v := ?_) rfl rfl (by kernel_rfl) (by kernel_rfl) (by kernel_rfl) (fun _ _ _ h => h) (by assumption) (by rfl) ?_ ?_; rotate_left; (focus (intro w hSw; obtain ⟨hS0, hS1, hS2, hS3, hS4, hS5, hS6, hS7, hS8⟩ := hSw; go_simp <;> with_reducible rfl)))
          | refine held_pass 2 96 rfl rfl (by kernel_rfl) (by kernel_rfl) (by kernel_rfl) (fun _ _ _ h => h) (by assumption) (by rfl) ?_
        simp only [Act.put, List.setIfInBounds_toArray, List.set_cons_zero, List.set_cons_succ]
        first
          | (refine held_take 3 97 (v := ?_) rfl rfl (by kernel_rfl) (by kernel_rfl) (by kernel_rfl) (fun _ _ _ h => h) (by assumption) (by rfl) ?_ ?_; rotate_left; (focus (intro w hSw; obtain ⟨hS0, hS1, hS2, hS3, hS4, hS5, hS6, hS7, hS8⟩ := hSw; go_simp <;> with_reducible rfl)))
          | refine held_pass 3 97 rfl rfl (by kernel_rfl) (by kernel_rfl) (by kernel_rfl) (fun _ _ _ h => h) (by assumption) (by rfl) ?_
        simp only [Act.put, List.setIfInBounds_toArray, List.set_cons_zero, List.set_cons_succ]
        first
          | (refine held_take 4 98 (v := ?_) rfl rfl (by kernel_rfl) (by kernel_rfl) (by kernel_rfl) (fun _ _ _ h => h) (by assumption) (by rfl) ?_ ?_; rotate_left; (focus (intro w hSw; obtain ⟨hS0, hS1, hS2, hS3, hS4, hS5, hS6, hS7, hS8⟩ := hSw; go_simp <;> with_reducible rfl)))
          | refine held_pass 4 98 rfl rfl (by kernel_rfl) (by kernel_rfl) (by kernel_rfl) (fun _ _ _ h => h) (by assumption) (by rfl) ?_
        simp only [Act.put, List.setIfInBounds_toArray, List.set_cons_zero, List.set_cons_succ]
        first
          | (refine held_take 6 100 (v := ?_) rfl rfl (by kernel_rfl) (by kernel_rfl) (by kernel_rfl) (fun _ _ _ h => h) (by assumption) (by rfl) ?_ ?_; rotate_left; (focus (intro w hSw; obtain ⟨hS0, hS1, hS2, hS3, hS4, hS5, hS6, hS7, hS8⟩ := hSw; go_simp <;> with_reducible rfl)))
          | refine held_pass 6 100 rfl rfl (by kernel_rfl) (by kernel_rfl) (by kernel_rfl) (fun _ _ _ h => h) (by assumption) (by rfl) ?_
        simp only [Act.put, List.setIfInBounds_toArray, List.set_cons_zero, List.set_cons_succ]
        first
          | (refine held_take 7 101 (v := ?_) rfl rfl (by kernel_rfl) (by kernel_rfl) (by kernel_rfl) (fun _ _ _ h => h) (by assumption) (by rfl) ?_ ?_; rotate_left; (focus (intro w hSw; obtain ⟨hS0, hS1, hS2, hS3, hS4, hS5, hS6, hS7, hS8⟩ := hSw; go_simp <;> with_reducible rfl)))
          | refine held_pass 7 101 rfl rfl (by kernel_rfl) (by kernel_rfl) (by kernel_rfl) (fun _ _ _ h => h) (by assumption) (by rfl) ?_
        simp only [Act.put, List.setIfInBounds_toArray, List.set_cons_zero, List.set_cons_succ]
        first
          | (refine held_take 8 102 (v := ?_) rfl rfl (by kernel_rfl) (by kernel_rfl) (by kernel_rfl) (fun _ _ _ h => h) (by assumption) (by rfl) ?_ ?_; rotate_left; (focus (intro w hSw; obtain ⟨hS0, hS1, hS2, hS3, hS4, hS5, hS6, hS7, hS8⟩ := hSw; go_simp <;> with_reducible rfl)))
          | refine held_pass 8 102 rfl rfl (by kernel_rfl) (by kernel_rfl) (by kernel_rfl) (fun _ _ _ h => h) (by assumption) (by rfl) ?_
        simp only [Act.put, List.setIfInBounds_toArray, List.set_cons_zero, List.set_cons_succ]
        first
          | (refine held_take 9 103 (v := ?_) rfl rfl (by kernel_rfl) (by kernel_rfl) (by kernel_rfl) (fun _ _ _ h => h) (by assumption) (by rfl) ?_ ?_; rotate_left; (focus (intro w hSw; obtain ⟨hS0, hS1, hS2, hS3, hS4, hS5, hS6, hS7, hS8⟩ := hSw; go_simp <;> with_reducible rfl)))
          | refine held_pass 9 103 rfl rfl (by kernel_rfl) (by kernel_rfl) (by kernel_rfl) (fun _ _ _ h => h) (by assumption) (by rfl) ?_
        simp only [Act.put, List.setIfInBounds_toArray, List.set_cons_zero, List.set_cons_succ]
        first
          | (refine held_take 10 104 (v := ?_) rfl rfl (by kernel_rfl) (by kernel_rfl) (by kernel_rfl) (fun _ _ _ h => h) (by assumption) (by rfl) ?_ ?_; rotate_left; (focus (intro w hSw; obtain ⟨hS0, hS1, hS2, hS3, hS4, hS5, hS6, hS7, hS8⟩ := hSw; go_simp <;> with_reducible rfl)))
          | refine held_pass 10 104 rfl rfl (by kernel_rfl) (by kernel_rfl) (by kernel_rfl) (fun _ _ _ h => h) (by assumption) (by rfl) ?_
        simp only [Act.put, List.setIfInBounds_toArray, List.set_cons_zero, List.set_cons_succ]
        refine held_call 5 99 rfl rfl (by kernel_rfl) (by rfl) (fun K hK => ?_)
        simp only [Go.wp_at_succ, Go.wp_at_zero]
        go_simp
        refine (HTP.out _ (M5.out.on (Below.drew (Below.refl _ _)))).mono ?_
        rintro e u1 ⟨rfl, HU1⟩
        have OU1 := Lib.hid ((OY5.out.on (Below.drew (Below.refl _ _))).k HU1.out.2)
        first | (with_reducible refine hK.out _ _ ?_ (fun hHeld => ?_)) | (go_wp2_with fail; refine hK.out _ _ ?_ (fun hHeld => ?_))
        · exact HSO.out _ OU1.out
        clear hK K
        try simp only [Act.put, List.setIfInBounds_toArray, List.set_cons_zero, List.set_cons_succ]
        refine held_call 11 105 rfl rfl (by kernel_rfl) (by rfl) (fun K hK => ?_)
        simp only [Go.wp_at_succ, Go.wp_at_zero]
        go_simp
        refine (HRP.out _ HU1.out.1).mono ?_
        rintro e u2 ⟨rfl, HU2⟩
        have OU2 := Lib.hid (OU1.out.k HU2.out.2)
        first | (with_reducible refine hK.out _ _ ?_ (fun hHeld => ?_)) | (go_wp2_with fail; refine hK.out _ _ ?_ (fun hHeld => ?_))
        · exact HSO.out _ OU2.out
        clear hK K
        try simp only [Act.put, List.setIfInBounds_toArray, List.set_cons_zero, List.set_cons_succ]
        first
          | (refine held_take 12 106 (v := ?_) rfl rfl (by kernel_rfl) (by kernel_rfl) (by kernel_rfl) (fun _ _ _ h => h) (by assumption) (by rfl) ?_ ?_; rotate_left; (focus (intro w hSw; obtain ⟨hS0, hS1, hS2, hS3, hS4, hS5, hS6, hS7, hS8⟩ := hSw; go_simp <;> with_reducible rfl)))
          | refine held_pass 12 106 rfl rfl (by kernel_rfl) (by kernel_rfl) (by kernel_rfl) (fun _ _ _ h => h) (by assumption) (by rfl) ?_
        simp only [Act.put, List.setIfInBounds_toArray, List.set_cons_zero, List.set_cons_succ]
        refine wpAnyH_done (by kernel_rfl) ?_ _
        clear hHeld
        have MN := Lib.hid HU2.out.1
        try simp only [bne_self_eq_false]
        go_wp2_with fail
        clear HTP HRP HTY HRY HPS2
        have PSN := Lib.hid (HPS1.out _ MN.out)
        clear HPS1
        refine (HMO.out _).mono ?_
        rintro e w7 ⟨rfl, rfl⟩
        generalize hs2 : proS s nd v = s2 at *
        generalize hd2 : proD d nd ⟨v, .slice oa lo oc⟩ B = dd at *
        clear hs2 hd2
        obtain ⟨fa, fc, sa, sc, hcf, hcs⟩ := pm_cells PSN.out.m
        obtain ⟨lf, hlf⟩ : ∃ l, l = dd.F.length := ⟨_, rfl⟩
        obtain ⟨ls, hls⟩ : ∃ l, l = dd.S.length := ⟨_, rfl⟩
        rw [← hlf] at hcf
        rw [← hls] at hcs
        obtain ⟨W8, hW8⟩ : ∃ W, W = u2 := ⟨_, rfl⟩
        obtain ⟨lc, hlc⟩ : ∃ l, l = s2.C.length := ⟨_, rfl⟩
        have hrd : rdyB s2 = decide (mo ≤ (lf : Int)) := by unfold rdyB; rw [PSN.out.r.n, PSN.out.n, PSN.out.r.p, ← hlf, HMOV.out]
        have hdo : donB s2 = decide (mo ≤ (ls : Int)) := by unfold donB; rw [PSN.out.r.n, PSN.out.n, PSN.out.r.y, ← hls, HMOV.out]
        have HRDY : Hid (∀ u, PM n w p X s2 dd u → Calls Try.prog 18 #[.pointer (some ⟨p, 0, none⟩)] u fun e w' => e = .returned (.bool (decide (mo ≤ (lf : Int)))) ∧ Hid (PM n w p X s2 dd w' ∧ Below u.heap.size u w')) := fun u hu => (pm_rdy hu hrd).mono fun _ _ ⟨he, hb⟩ => ⟨he, hu.on hb, hb⟩
        have HDON : Hid (∀ u, PM n w p X s2 dd u → Calls Try.prog 19 #[.pointer (some ⟨p, 0, none⟩)] u fun e w' => e = .returned (.bool (decide (mo ≤ (ls : Int)))) ∧ Hid (PM n w p X s2 dd w' ∧ Below u.heap.size u w')) := fun u hu => (pm_don hu hdo).mono fun _ _ ⟨he, hb⟩ => ⟨he, hu.on hb, hb⟩
        have HTC : Hid (∀ u, PM n w p X s2 dd u → Calls Try.prog 21 #[.pointer (some ⟨p, 0, none⟩)] u fun e w' => ∃ a c, e = .returned (.agg #[.int .i64 s2.ce, .slice a lc c]) ∧ Hid (RowI w' (.slice a lc c) s2.C ∧ PM n w p X s2 dd w' ∧ Below u.heap.size u w')) := fun u hu => by
          rw [hlc]
          exact (pm_tchain hu).mono fun _ _ ⟨a, c, he, hh⟩ => ⟨a, c, he, hh.out.1, hu.on hh.out.2, hh.out.2⟩
        have HRC : Hid (∀ u, PM n w p X s2 dd u → Calls Try.prog 22 #[.pointer (some ⟨X, 0, none⟩)] u fun e w' => ∃ a c, e = .returned (.agg #[.int .i64 s2.ce, .slice a lc c]) ∧ Hid (Ints w n (.slice a lc c) s2.C ∧ PM n w p X s2 dd w' ∧ Below u.heap.size u w')) := fun u hu => by
          rw [hlc]
          exact (pm_rchain hu PSN.out.r (by have := PSN.out.v; omega)).mono fun _ _ ⟨a, c, he, hh⟩ => ⟨a, c, he, hh.out.1, hu.on hh.out.2, hh.out.2⟩
        have HSC : Hid (∀ u v1 v2, PM n w p X s2 dd u → RowI u v1 s2.C → Ints w n v2 s2.C → Calls Try.prog 20 #[.agg #[.int .i64 s2.ce, v1], .agg #[.int .i64 s2.ce, v2]] u fun e w' => e = .returned (.bool true) ∧ Hid (PM n w p X s2 dd w' ∧ Below u.heap.size u w')) := fun u v1 v2 hu g1 g2 => (refsame_any s2.ce s2.ce v1 v2 s2.C s2.C u.heap.size u g1.ints ((g2.keep hu.bel).mono hu.size) (Nat.le_refl _) (by have := hu.ok.c; omega)).mono fun _ _ ⟨he, hb⟩ => ⟨by simpa using he, hu.on hb, hb⟩
        have HSX : Hid (∀ u, Below u2.heap.size u2 u → (fun u => u.cell? ⟨X, 6, none⟩ = some (.slice fa lf fc) ∧ u.cell? ⟨X, 7, none⟩ = some (.slice sa ls sc)) u) := fun u hu => ⟨(hu.cell (p := ⟨X, 6, none⟩) (World.block_lt_of_cell? _ _ hcf)).trans hcf, (hu.cell (p := ⟨X, 7, none⟩) (World.block_lt_of_cell? _ _ hcs)).trans hcs⟩
        clear hcf hcs hlf hls hlc hrd hdo hW8
        go_wp2_with fail
        refine wp_region_held_drew (S := (fun u => u.cell? ⟨X, 6, none⟩ = some (.slice fa lf fc) ∧ u.cell? ⟨X, 7, none⟩ = some (.slice sa ls sc))) (by kernel_rfl) (HSX.out _ (Below.drew (Below.refl _ _))) (fun hHeld => ?_)
        have V0 : Hid (Below u2.heap.size u2 u2.drew) := Below.drew (Below.refl _ _)
        have N0 := Lib.hid (PSN.out.m.on V0.out)
        first
          | (refine held_take 0 118 (v := ?_) rfl rfl (by kernel_rfl) (by kernel_rfl) (by kernel_rfl) (fun _ _ _ h => h) (by assumption) (by rfl) ?_ ?_; rotate_left; (focus (intro w hSw; obtain ⟨hS0, hS1⟩ := hSw; go_simp <;> with_reducible rfl)))
          | refine held_pass 0 118 rfl rfl (by kernel_rfl) (by kernel_rfl) (by kernel_rfl) (fun _ _ _ h => h) (by assumption) (by rfl) ?_
        simp only [Act.put, List.setIfInBounds_toArray, List.set_cons_zero, List.set_cons_succ]
        first
          | (refine held_take 2 120 (v := ?_) rfl rfl (by kernel_rfl) (by kernel_rfl) (by kernel_rfl) (fun _ _ _ h => h) (by assumption) (by rfl) ?_ ?_; rotate_left; (focus (intro w hSw; obtain ⟨hS0, hS1⟩ := hSw; go_simp <;> with_reducible rfl)))
          | refine held_pass 2 120 rfl rfl (by kernel_rfl) (by kernel_rfl) (by kernel_rfl) (fun _ _ _ h => h) (by assumption) (by rfl) ?_
        simp only [Act.put, List.setIfInBounds_toArray, List.set_cons_zero, List.set_cons_succ]
        first
          | (refine held_take 3 121 (v := ?_) rfl rfl (by kernel_rfl) (by kernel_rfl) (by kernel_rfl) (fun _ _ _ h => h) (by assumption) (by rfl) ?_ ?_; rotate_left; (focus (intro w hSw; obtain ⟨hS0, hS1⟩ := hSw; go_simp <;> with_reducible rfl)))
          | refine held_pass 3 121 rfl rfl (by kernel_rfl) (by kernel_rfl) (by kernel_rfl) (fun _ _ _ h => h) (by assumption) (by rfl) ?_
        simp only [Act.put, List.setIfInBounds_toArray, List.set_cons_zero, List.set_cons_succ]
        first
          | (refine held_take 4 122 (v := ?_) rfl rfl (by kernel_rfl) (by kernel_rfl) (by kernel_rfl) (fun _ _ _ h => h) (by assumption) (by rfl) ?_ ?_; rotate_left; (focus (intro w hSw; obtain ⟨hS0, hS1⟩ := hSw; go_simp <;> with_reducible rfl)))
          | refine held_pass 4 122 rfl rfl (by kernel_rfl) (by kernel_rfl) (by kernel_rfl) (fun _ _ _ h => h) (by assumption) (by rfl) ?_
        simp only [Act.put, List.setIfInBounds_toArray, List.set_cons_zero, List.set_cons_succ]
        first
          | (refine held_take 5 123 (v := ?_) rfl rfl (by kernel_rfl) (by kernel_rfl) (by kernel_rfl) (fun _ _ _ h => h) (by assumption) (by rfl) ?_ ?_; rotate_left; (focus (intro w hSw; obtain ⟨hS0, hS1⟩ := hSw; go_simp <;> with_reducible rfl)))
          | refine held_pass 5 123 rfl rfl (by kernel_rfl) (by kernel_rfl) (by kernel_rfl) (fun _ _ _ h => h) (by assumption) (by rfl) ?_
        simp only [Act.put, List.setIfInBounds_toArray, List.set_cons_zero, List.set_cons_succ]
        first
          | (refine held_take 6 124 (v := ?_) rfl rfl (by kernel_rfl) (by kernel_rfl) (by kernel_rfl) (fun _ _ _ h => h) (by assumption) (by rfl) ?_ ?_; rotate_left; (focus (intro w hSw; obtain ⟨hS0, hS1⟩ := hSw; go_simp <;> with_reducible rfl)))
          | refine held_pass 6 124 rfl rfl (by kernel_rfl) (by kernel_rfl) (by kernel_rfl) (fun _ _ _ h => h) (by assumption) (by rfl) ?_
        simp only [Act.put, List.setIfInBounds_toArray, List.set_cons_zero, List.set_cons_succ]
        first
          | (refine held_take 7 125 (v := ?_) rfl rfl (by kernel_rfl) (by kernel_rfl) (by kernel_rfl) (fun _ _ _ h => h) (by assumption) (by rfl) ?_ ?_; rotate_left; (focus (intro w hSw; obtain ⟨hS0, hS1⟩ := hSw; go_simp <;> with_reducible rfl)))
          | refine held_pass 7 125 rfl rfl (by kernel_rfl) (by kernel_rfl) (by kernel_rfl) (fun _ _ _ h => h) (by assumption) (by rfl) ?_
        simp only [Act.put, List.setIfInBounds_toArray, List.set_cons_zero, List.set_cons_succ]
        first
          | (refine held_take 8 126 (v := ?_) rfl rfl (by kernel_rfl) (by kernel_rfl) (by kernel_rfl) (fun _ _ _ h => h) (by assumption) (by rfl) ?_ ?_; rotate_left; (focus (intro w hSw; obtain ⟨hS0, hS1⟩ := hSw; go_simp <;> with_reducible rfl)))
          | refine held_pass 8 126 rfl rfl (by kernel_rfl) (by kernel_rfl) (by kernel_rfl) (fun _ _ _ h => h) (by assumption) (by rfl) ?_
        simp only [Act.put, List.setIfInBounds_toArray, List.set_cons_zero, List.set_cons_succ]
        refine held_call 1 119 rfl rfl (by kernel_rfl) (by rfl) (fun K hK => ?_)
        simp only [Go.wp_at_succ, Go.wp_at_zero]
        go_simp
        refine (HRDY.out _ N0.out).mono ?_
        rintro e k1 ⟨rfl, L1⟩
        have V1 := Lib.hid (V0.out.trans (L1.out.2.mono V0.out.size))
        first | (with_reducible refine hK.out _ _ ?_ (fun hHeld => ?_)) | (go_wp2_with fail; refine hK.out _ _ ?_ (fun hHeld => ?_))
        · exact HSX.out _ V1.out
        clear hK K
        try simp only [Act.put, List.setIfInBounds_toArray, List.set_cons_zero, List.set_cons_succ]
        first
          | (refine held_take 9 127 (v := ?_) rfl rfl (by kernel_rfl) (by kernel_rfl) (by kernel_rfl) (fun _ _ _ h => h) (by assumption) (by rfl) ?_ ?_; rotate_left; (focus (intro w hSw; obtain ⟨hS0, hS1⟩ := hSw; go_simp <;> with_reducible rfl)))
          | refine held_pass 9 127 rfl rfl (by kernel_rfl) (by kernel_rfl) (by kernel_rfl) (fun _ _ _ h => h) (by assumption) (by rfl) ?_
        simp only [Act.put, List.setIfInBounds_toArray, List.set_cons_zero, List.set_cons_succ]
        try simp only [bne_self_eq_false]
        first
          | (refine held_take 10 128 (v := ?_) rfl rfl (by kernel_rfl) (by kernel_rfl) (by kernel_rfl) (fun _ _ _ h => h) (by assumption) (by rfl) ?_ ?_; rotate_left; (focus (intro w hSw; obtain ⟨hS0, hS1⟩ := hSw; go_simp <;> with_reducible rfl)))
          | refine held_pass 10 128 rfl rfl (by kernel_rfl) (by kernel_rfl) (by kernel_rfl) (fun _ _ _ h => h) (by assumption) (by rfl) ?_
        simp only [Act.put, List.setIfInBounds_toArray, List.set_cons_zero, List.set_cons_succ]
        first
          | (refine held_take 11 129 (v := ?_) rfl rfl (by kernel_rfl) (by kernel_rfl) (by kernel_rfl) (fun _ _ _ h => h) (by assumption) (by rfl) ?_ ?_; rotate_left; (focus (intro w hSw; obtain ⟨hS0, hS1⟩ := hSw; go_simp <;> with_reducible rfl)))
          | refine held_pass 11 129 rfl rfl (by kernel_rfl) (by kernel_rfl) (by kernel_rfl) (fun _ _ _ h => h) (by assumption) (by rfl) ?_
        simp only [Act.put, List.setIfInBounds_toArray, List.set_cons_zero, List.set_cons_succ]
        first
          | (refine held_take 13 131 (v := ?_) rfl rfl (by kernel_rfl) (by kernel_rfl) (by kernel_rfl) (fun _ _ _ h => h) (by assumption) (by rfl) ?_ ?_; rotate_left; (focus (intro w hSw; obtain ⟨hS0, hS1⟩ := hSw; go_simp <;> with_reducible rfl)))
          | refine held_pass 13 131 rfl rfl (by kernel_rfl) (by kernel_rfl) (by kernel_rfl) (fun _ _ _ h => h) (by assumption) (by rfl) ?_
        simp only [Act.put, List.setIfInBounds_toArray, List.set_cons_zero, List.set_cons_succ]
        first
          | (refine held_take 14 132 (v := ?_) rfl rfl (by kernel_rfl) (by kernel_rfl) (by kernel_rfl) (fun _ _ _ h => h) (by assumption) (by rfl) ?_ ?_; rotate_left; (focus (intro w hSw; obtain ⟨hS0, hS1⟩ := hSw; go_simp <;> with_reducible rfl)))
          | refine held_pass 14 132 rfl rfl (by kernel_rfl) (by kernel_rfl) (by kernel_rfl) (fun _ _ _ h => h) (by assumption) (by rfl) ?_
        simp only [Act.put, List.setIfInBounds_toArray, List.set_cons_zero, List.set_cons_succ]
        first
          | (refine held_take 15 133 (v := ?_) rfl rfl (by kernel_rfl) (by kernel_rfl) (by kernel_rfl) (fun _ _ _ h => h) (by assumption) (by rfl) ?_ ?_; rotate_left; (focus (intro w hSw; obtain ⟨hS0, hS1⟩ := hSw; go_simp <;> with_reducible rfl)))
          | refine held_pass 15 133 rfl rfl (by kernel_rfl) (by kernel_rfl) (by kernel_rfl) (fun _ _ _ h => h) (by assumption) (by rfl) ?_
        simp only [Act.put, List.setIfInBounds_toArray, List.set_cons_zero, List.set_cons_succ]
        first
          | (refine held_take 16 134 (v := ?_) rfl rfl (by kernel_rfl) (by kernel_rfl) (by kernel_rfl) (fun _ _ _ h => h) (by assumption) (by rfl) ?_ ?_; rotate_left; (focus (intro w hSw; obtain ⟨hS0, hS1⟩ := hSw; go_simp <;> with_reducible rfl)))
          | refine held_pass 16 134 rfl rfl (by kernel_rfl) (by kernel_rfl) (by kernel_rfl) (fun _ _ _ h => h) (by assumption) (by rfl) ?_
        simp only [Act.put, List.setIfInBounds_toArray, List.set_cons_zero, List.set_cons_succ]
        first
          | (refine held_take 17 135 (v := ?_) rfl rfl (by kernel_rfl) (by kernel_rfl) (by kernel_rfl) (fun _ _ _ h => h) (by assumption) (by rfl) ?_ ?_; rotate_left; (focus (intro w hSw; obtain ⟨hS0, hS1⟩ := hSw; go_simp <;> with_reducible rfl)))
          | refine held_pass 17 135 rfl rfl (by kernel_rfl) (by kernel_rfl) (by kernel_rfl) (fun _ _ _ h => h) (by assumption) (by rfl) ?_
        simp only [Act.put, List.setIfInBounds_toArray, List.set_cons_zero, List.set_cons_succ]
        first
          | (refine held_take 18 136 (v := ?_) rfl rfl (by kernel_rfl) (by kernel_rfl) (by kernel_rfl) (fun _ _ _ h => h) (by assumption) (by rfl) ?_ ?_; rotate_left; (focus (intro w hSw; obtain ⟨hS0, hS1⟩ := hSw; go_simp <;> with_reducible rfl)))
          | refine held_pass 18 136 rfl rfl (by kernel_rfl) (by kernel_rfl) (by kernel_rfl) (fun _ _ _ h => h) (by assumption) (by rfl) ?_
        simp only [Act.put, List.setIfInBounds_toArray, List.set_cons_zero, List.set_cons_succ]
        first
          | (refine held_take 19 137 (v := ?_) rfl rfl (by kernel_rfl) (by kernel_rfl) (by kernel_rfl) (fun _ _ _ h => h) (by assumption) (by rfl) ?_ ?_; rotate_left; (focus (intro w hSw; obtain ⟨hS0, hS1⟩ := hSw; go_simp <;> with_reducible rfl)))
          | refine held_pass 19 137 rfl rfl (by kernel_rfl) (by kernel_rfl) (by kernel_rfl) (fun _ _ _ h => h) (by assumption) (by rfl) ?_
        simp only [Act.put, List.setIfInBounds_toArray, List.set_cons_zero, List.set_cons_succ]
        refine held_call 12 130 rfl rfl (by kernel_rfl) (by rfl) (fun K hK => ?_)
        simp only [Go.wp_at_succ, Go.wp_at_zero]
        go_simp
        refine (HDON.out _ L1.out.1).mono ?_
        rintro e k2 ⟨rfl, L2⟩
        have V2 := Lib.hid (V1.out.trans (L2.out.2.mono V1.out.size))
        first | (with_reducible refine hK.out _ _ ?_ (fun hHeld => ?_)) | (go_wp2_with fail; refine hK.out _ _ ?_ (fun hHeld => ?_))
        · exact HSX.out _ V2.out
        clear hK K
        try simp only [Act.put, List.setIfInBounds_toArray, List.set_cons_zero, List.set_cons_succ]
        first
          | (refine held_take 20 138 (v := ?_) rfl rfl (by kernel_rfl) (by kernel_rfl) (by kernel_rfl) (fun _ _ _ h => h) (by assumption) (by rfl) ?_ ?_; rotate_left; (focus (intro w hSw; obtain ⟨hS0, hS1⟩ := hSw; go_simp <;> with_reducible rfl)))
          | refine held_pass 20 138 rfl rfl (by kernel_rfl) (by kernel_rfl) (by kernel_rfl) (fun _ _ _ h => h) (by assumption) (by rfl) ?_
        simp only [Act.put, List.setIfInBounds_toArray, List.set_cons_zero, List.set_cons_succ]
        try simp only [bne_self_eq_false]
        first
          | (refine held_take 21 139 (v := ?_) rfl rfl (by kernel_rfl) (by kernel_rfl) (by kernel_rfl) (fun _ _ _ h => h) (by assumption) (by rfl) ?_ ?_; rotate_left; (focus (intro w hSw; obtain ⟨hS0, hS1⟩ := hSw; go_simp <;> with_reducible rfl)))
          | refine held_pass 21 139 rfl rfl (by kernel_rfl) (by kernel_rfl) (by kernel_rfl) (fun _ _ _ h => h) (by assumption) (by rfl) ?_
        simp only [Act.put, List.setIfInBounds_toArray, List.set_cons_zero, List.set_cons_succ]
        first
          | (refine held_take 22 140 (v := ?_) rfl rfl (by kernel_rfl) (by kernel_rfl) (by kernel_rfl) (fun _ _ _ h => h) (by assumption) (by rfl) ?_ ?_; rotate_left; (focus (intro w hSw; obtain ⟨hS0, hS1⟩ := hSw; go_simp <;> with_reducible rfl)))
          | refine held_pass 22 140 rfl rfl (by kernel_rfl) (by kernel_rfl) (by kernel_rfl) (fun _ _ _ h => h) (by assumption) (by rfl) ?_
        simp only [Act.put, List.setIfInBounds_toArray, List.set_cons_zero, List.set_cons_succ]
        first
          | (refine held_take 23 141 (v := ?_) rfl rfl (by kernel_rfl) (by kernel_rfl) (by kernel_rfl) (fun _ _ _ h => h) (by assumption) (by rfl) ?_ ?_; rotate_left; (focus (intro w hSw; obtain ⟨hS0, hS1⟩ := hSw; go_simp <;> with_reducible rfl)))
          | refine held_pass 23 141 rfl rfl (by kernel_rfl) (by kernel_rfl) (by kernel_rfl) (fun _ _ _ h => h) (by assumption) (by rfl) ?_
        simp only [Act.put, List.setIfInBounds_toArray, List.set_cons_zero, List.set_cons_succ]
        first
          | (refine held_take 25 143 (v := ?_) rfl rfl (by kernel_rfl) (by kernel_rfl) (by kernel_rfl) (fun _ _ _ h => h) (by assumption) (by rfl) ?_ ?_; rotate_left; (focus (intro w hSw; obtain ⟨hS0, hS1⟩ := hSw; go_simp <;> with_reducible rfl)))
          | refine held_pass 25 143 rfl rfl (by kernel_rfl) (by kernel_rfl) (by kernel_rfl) (fun _ _ _ h => h) (by assumption) (by rfl) ?_
        simp only [Act.put, List.setIfInBounds_toArray, List.set_cons_zero, List.set_cons_succ]
        refine held_call 24 142 rfl rfl (by kernel_rfl) (by rfl) (fun K hK => ?_)
        simp only [Go.wp_at_succ, Go.wp_at_zero]
        go_simp
        refine (HTC.out _ L2.out.1).mono ?_
        rintro e k3 ⟨ta, tc, rfl, L3⟩
        have V3 := Lib.hid (V2.out.trans (L3.out.2.2.mono V2.out.size))
        first | (with_reducible refine hK.out _ _ ?_ (fun hHeld => ?_)) | (go_wp2_with fail; refine hK.out _ _ ?_ (fun hHeld => ?_))
        · exact HSX.out _ V3.out
        clear hK K
        try simp only [Act.put, List.setIfInBounds_toArray, List.set_cons_zero, List.set_cons_succ]
        refine held_call 26 144 rfl rfl (by kernel_rfl) (by rfl) (fun K hK => ?_)
        simp only [Go.wp_at_succ, Go.wp_at_zero]
        go_simp
        refine (HRC.out _ L3.out.2.1).mono ?_
        rintro e k4 ⟨ra, rc, rfl, L4⟩
        have V4 := Lib.hid (V3.out.trans (L4.out.2.2.mono V3.out.size))
        first | (with_reducible refine hK.out _ _ ?_ (fun hHeld => ?_)) | (go_wp2_with fail; refine hK.out _ _ ?_ (fun hHeld => ?_))
        · exact HSX.out _ V4.out
        clear hK K
        try simp only [Act.put, List.setIfInBounds_toArray, List.set_cons_zero, List.set_cons_succ]
        refine held_call 27 145 rfl rfl (by kernel_rfl) (by rfl) (fun K hK => ?_)
        simp only [Go.wp_at_succ, Go.wp_at_zero]
        go_simp
        refine (HSC.out _ _ _ L4.out.2.1 (L3.out.1.on L4.out.2.2) L4.out.1).mono ?_
        rintro e k5 ⟨rfl, L5⟩
        have V5 := Lib.hid (V4.out.trans (L5.out.2.mono V4.out.size))
        first | (with_reducible refine hK.out _ _ ?_ (fun hHeld => ?_)) | (go_wp2_with fail; refine hK.out _ _ ?_ (fun hHeld => ?_))
        · exact HSX.out _ V5.out
        clear hK K
        try simp only [Act.put, List.setIfInBounds_toArray, List.set_cons_zero, List.set_cons_succ]
        first
          | (refine held_take 28 146 (v := ?_) rfl rfl (by kernel_rfl) (by kernel_rfl) (by kernel_rfl) (fun _ _ _ h => h) (by assumption) (by rfl) ?_ ?_; rotate_left; (focus (intro w hSw; obtain ⟨hS0, hS1⟩ := hSw; go_simp <;> with_reducible rfl)))
          | refine held_pass 28 146 rfl rfl (by kernel_rfl) (by kernel_rfl) (by kernel_rfl) (fun _ _ _ h => h) (by assumption) (by rfl) ?_
        simp only [Act.put, List.setIfInBounds_toArray, List.set_cons_zero, List.set_cons_succ]
        first
          | (refine held_take 29 147 (v := ?_) rfl rfl (by kernel_rfl) (by kernel_rfl) (by kernel_rfl) (fun _ _ _ h => h) (by assumption) (by rfl) ?_ ?_; rotate_left; (focus (intro w hSw; obtain ⟨hS0, hS1⟩ := hSw; go_simp <;> with_reducible rfl)))
          | refine held_pass 29 147 rfl rfl (by kernel_rfl) (by kernel_rfl) (by kernel_rfl) (fun _ _ _ h => h) (by assumption) (by rfl) ?_
        simp only [Act.put, List.setIfInBounds_toArray, List.set_cons_zero, List.set_cons_succ]
        refine wpAnyH_done (by kernel_rfl) ?_ _
        clear hHeld
        go_wp2_with fail
        go_roundw
        case rel => exact ⟨i + 1, s2, dd, by go_num, by omega, by omega, ⟨PSN.out.m.on V5.out, PSN.out.r, PSN.out.n, PSN.out.c, PSN.out.v⟩⟩
        case measure => simp [intOf]; omega
      · have hkb : (kd == 0) = false := beq_eq_false_iff_ne.2 hk
        clear hk
        go_wp2_with fail
        rw [← HB13.out, ← HY5.out]
        clear z0 z1 z2 z3 z4 z5 z6 z7 z8 d0 d1 d2 d3 d4 d5 d6 d7 d8
        refine wp_region_held_drew (S := (fun u => u.cell? ⟨b13, 0, none⟩ = some (.int .i64 kd) ∧ u.cell? ⟨b13, 1, none⟩ = some (.int .i64 nd) ∧ u.cell? ⟨b13, 2, none⟩ = some (.int .i64 v.pr) ∧ u.cell? ⟨b13, 3, none⟩ = some (.int .i64 v.pn) ∧ u.cell? ⟨b13, 4, none⟩ = some (.int .i64 v.ar) ∧ u.cell? ⟨b13, 5, none⟩ = some (.int .i64 v.an) ∧ u.cell? ⟨b13, 6, none⟩ = some (.bool v.has) ∧ u.cell? ⟨b13, 7, none⟩ = some (.int .i64 v.ce) ∧ u.cell? ⟨b13, 8, none⟩ = some (.slice oa lo oc))) (by kernel_rfl) (HSO.out _ (OY5.out.on (Below.drew (Below.refl _ _)))) (fun hHeld => ?_)
        first
          | (refine held_take 0 107 (v := ?_) rfl rfl (by kernel_rfl) (by kernel_rfl) (by kernel_rfl) (fun _ _ _ h => h) (by assumption) (by rfl) ?_ ?_; rotate_left; (focus (intro w hSw; obtain ⟨hS0, hS1, hS2, hS3, hS4, hS5, hS6, hS7, hS8⟩ := hSw; go_simp <;> with_reducible rfl)))
          | refine held_pass 0 107 rfl rfl (by kernel_rfl) (by kernel_rfl) (by kernel_rfl) (fun _ _ _ h => h) (by assumption) (by rfl) ?_
        simp only [Act.put, List.setIfInBounds_toArray, List.set_cons_zero, List.set_cons_succ]
        first
          | (refine held_take 1 108 (v := ?_) rfl rfl (by kernel_rfl) (by kernel_rfl) (by kernel_rfl) (fun _ _ _ h => h) (by assumption) (by rfl) ?_ ?_; rotate_left; (focus (intro w hSw; obtain ⟨hS0, hS1, hS2, hS3, hS4, hS5, hS6, hS7, hS8⟩ := hSw; go_simp <;> with_reducible rfl)))
          | refine held_pass 1 108 rfl rfl (by kernel_rfl) (by kernel_rfl) (by kernel_rfl) (fun _ _ _ h => h) (by assumption) (by rfl) ?_
        simp only [Act.put, List.setIfInBounds_toArray, List.set_cons_zero, List.set_cons_succ]
        first
          | (refine held_take 2 109 (v := ?_) rfl rfl (by kernel_rfl) (by kernel_rfl) (by kernel_rfl) (fun _ _ _ h => h) (by assumption) (by rfl) ?_ ?_; rotate_left; (focus (intro w hSw; obtain ⟨hS0, hS1, hS2, hS3, hS4, hS5, hS6, hS7, hS8⟩ := hSw; go_simp <;> with_reducible rfl)))
          | refine held_pass 2 109 rfl rfl (by kernel_rfl) (by kernel_rfl) (by kernel_rfl) (fun _ _ _ h => h) (by assumption) (by rfl) ?_
        simp only [Act.put, List.setIfInBounds_toArray, List.set_cons_zero, List.set_cons_succ]
        first
          | (refine held_take 4 111 (v := ?_) rfl rfl (by kernel_rfl) (by kernel_rfl) (by kernel_rfl) (fun _ _ _ h => h) (by assumption) (by rfl) ?_ ?_; rotate_left; (focus (intro w hSw; obtain ⟨hS0, hS1, hS2, hS3, hS4, hS5, hS6, hS7, hS8⟩ := hSw; go_simp <;> with_reducible rfl)))
          | refine held_pass 4 111 rfl rfl (by kernel_rfl) (by kernel_rfl) (by kernel_rfl) (fun _ _ _ h => h) (by assumption) (by rfl) ?_
        simp only [Act.put, List.setIfInBounds_toArray, List.set_cons_zero, List.set_cons_succ]
        first
          | (refine held_take 5 112 (v := ?_) rfl rfl (by kernel_rfl) (by kernel_rfl) (by kernel_rfl) (fun _ _ _ h => h) (by assumption) (by rfl) ?_ ?_; rotate_left; (focus (intro w hSw; obtain ⟨hS0, hS1, hS2, hS3, hS4, hS5, hS6, hS7, hS8⟩ := hSw; go_simp <;> with_reducible rfl)))
          | refine held_pass 5 112 rfl rfl (by kernel_rfl) (by kernel_rfl) (by kernel_rfl) (fun _ _ _ h => h) (by assumption) (by rfl) ?_
        simp only [Act.put, List.setIfInBounds_toArray, List.set_cons_zero, List.set_cons_succ]
        first
          | (refine held_take 6 113 (v := ?_) rfl rfl (by kernel_rfl) (by kernel_rfl) (by kernel_rfl) (fun _ _ _ h => h) (by assumption) (by rfl) ?_ ?_; rotate_left; (focus (intro w hSw; obtain ⟨hS0, hS1, hS2, hS3, hS4, hS5, hS6, hS7, hS8⟩ := hSw; go_simp <;> with_reducible rfl)))
          | refine held_pass 6 113 rfl rfl (by kernel_rfl) (by kernel_rfl) (by kernel_rfl) (fun _ _ _ h => h) (by assumption) (by rfl) ?_
        simp only [Act.put, List.setIfInBounds_toArray, List.set_cons_zero, List.set_cons_succ]
        refine held_call 3 110 rfl rfl (by kernel_rfl) (by rfl) (fun K hK => ?_)
        simp only [Go.wp_at_succ, Go.wp_at_zero]
        go_simp
        refine (HTY.out _ (M5.out.on (Below.drew (Below.refl _ _)))).mono ?_
        rintro e u1 ⟨rfl, HU1⟩
        have OU1 := Lib.hid ((OY5.out.on (Below.drew (Below.refl _ _))).k HU1.out.2)
        first | (with_reducible refine hK.out _ _ ?_ (fun hHeld => ?_)) | (go_wp2_with fail; refine hK.out _ _ ?_ (fun hHeld => ?_))
        · exact HSO.out _ OU1.out
        clear hK K
        try simp only [Act.put, List.setIfInBounds_toArray, List.set_cons_zero, List.set_cons_succ]
        refine held_call 7 114 rfl rfl (by kernel_rfl) (by rfl) (fun K hK => ?_)
        simp only [Go.wp_at_succ, Go.wp_at_zero]
        go_simp
        refine (HRY.out _ HU1.out.1).mono ?_
        rintro e u2 ⟨rfl, HU2⟩
        have OU2 := Lib.hid (OU1.out.k HU2.out.2)
        first | (with_reducible refine hK.out _ _ ?_ (fun hHeld => ?_)) | (go_wp2_with fail; refine hK.out _ _ ?_ (fun hHeld => ?_))
        · exact HSO.out _ OU2.out
        clear hK K
        try simp only [Act.put, List.setIfInBounds_toArray, List.set_cons_zero, List.set_cons_succ]
        first
          | (refine held_take 8 115 (v := ?_) rfl rfl (by kernel_rfl) (by kernel_rfl) (by kernel_rfl) (fun _ _ _ h => h) (by assumption) (by rfl) ?_ ?_; rotate_left; (focus (intro w hSw; obtain ⟨hS0, hS1, hS2, hS3, hS4, hS5, hS6, hS7, hS8⟩ := hSw; go_simp <;> with_reducible rfl)))
          | refine held_pass 8 115 rfl rfl (by kernel_rfl) (by kernel_rfl) (by kernel_rfl) (fun _ _ _ h => h) (by assumption) (by rfl) ?_
        simp only [Act.put, List.setIfInBounds_toArray, List.set_cons_zero, List.set_cons_succ]
        refine wpAnyH_done (by kernel_rfl) ?_ _
        clear hHeld
        have MN := Lib.hid HU2.out.1
        try simp only [bne_self_eq_false]
        go_wp2_with fail
        clear HTP HRP HTY HRY HPS1
        have PSN := Lib.hid (HPS2.out _ MN.out)
        clear HPS2
        refine (HMO.out _).mono ?_
        rintro e w7 ⟨rfl, rfl⟩
        generalize hs2 : yesS s nd = s2 at *
        generalize hd2 : yesD d nd Z = dd at *
        clear hs2 hd2
        obtain ⟨fa, fc, sa, sc, hcf, hcs⟩ := pm_cells PSN.out.m
        obtain ⟨lf, hlf⟩ : ∃ l, l = dd.F.length := ⟨_, rfl⟩
        obtain ⟨ls, hls⟩ : ∃ l, l = dd.S.length := ⟨_, rfl⟩
        rw [← hlf] at hcf
        rw [← hls] at hcs
        obtain ⟨W8, hW8⟩ : ∃ W, W = u2 := ⟨_, rfl⟩
        obtain ⟨lc, hlc⟩ : ∃ l, l = s2.C.length := ⟨_, rfl⟩
        have hrd : rdyB s2 = decide (mo ≤ (lf : Int)) := by unfold rdyB; rw [PSN.out.r.n, PSN.out.n, PSN.out.r.p, ← hlf, HMOV.out]
        have hdo : donB s2 = decide (mo ≤ (ls : Int)) := by unfold donB; rw [PSN.out.r.n, PSN.out.n, PSN.out.r.y, ← hls, HMOV.out]
        have HRDY : Hid (∀ u, PM n w p X s2 dd u → Calls Try.prog 18 #[.pointer (some ⟨p, 0, none⟩)] u fun e w' => e = .returned (.bool (decide (mo ≤ (lf : Int)))) ∧ Hid (PM n w p X s2 dd w' ∧ Below u.heap.size u w')) := fun u hu => (pm_rdy hu hrd).mono fun _ _ ⟨he, hb⟩ => ⟨he, hu.on hb, hb⟩
        have HDON : Hid (∀ u, PM n w p X s2 dd u → Calls Try.prog 19 #[.pointer (some ⟨p, 0, none⟩)] u fun e w' => e = .returned (.bool (decide (mo ≤ (ls : Int)))) ∧ Hid (PM n w p X s2 dd w' ∧ Below u.heap.size u w')) := fun u hu => (pm_don hu hdo).mono fun _ _ ⟨he, hb⟩ => ⟨he, hu.on hb, hb⟩
        have HTC : Hid (∀ u, PM n w p X s2 dd u → Calls Try.prog 21 #[.pointer (some ⟨p, 0, none⟩)] u fun e w' => ∃ a c, e = .returned (.agg #[.int .i64 s2.ce, .slice a lc c]) ∧ Hid (RowI w' (.slice a lc c) s2.C ∧ PM n w p X s2 dd w' ∧ Below u.heap.size u w')) := fun u hu => by
          rw [hlc]
          exact (pm_tchain hu).mono fun _ _ ⟨a, c, he, hh⟩ => ⟨a, c, he, hh.out.1, hu.on hh.out.2, hh.out.2⟩
        have HRC : Hid (∀ u, PM n w p X s2 dd u → Calls Try.prog 22 #[.pointer (some ⟨X, 0, none⟩)] u fun e w' => ∃ a c, e = .returned (.agg #[.int .i64 s2.ce, .slice a lc c]) ∧ Hid (Ints w n (.slice a lc c) s2.C ∧ PM n w p X s2 dd w' ∧ Below u.heap.size u w')) := fun u hu => by
          rw [hlc]
          exact (pm_rchain hu PSN.out.r (by have := PSN.out.v; omega)).mono fun _ _ ⟨a, c, he, hh⟩ => ⟨a, c, he, hh.out.1, hu.on hh.out.2, hh.out.2⟩
        have HSC : Hid (∀ u v1 v2, PM n w p X s2 dd u → RowI u v1 s2.C → Ints w n v2 s2.C → Calls Try.prog 20 #[.agg #[.int .i64 s2.ce, v1], .agg #[.int .i64 s2.ce, v2]] u fun e w' => e = .returned (.bool true) ∧ Hid (PM n w p X s2 dd w' ∧ Below u.heap.size u w')) := fun u v1 v2 hu g1 g2 => (refsame_any s2.ce s2.ce v1 v2 s2.C s2.C u.heap.size u g1.ints ((g2.keep hu.bel).mono hu.size) (Nat.le_refl _) (by have := hu.ok.c; omega)).mono fun _ _ ⟨he, hb⟩ => ⟨by simpa using he, hu.on hb, hb⟩
        have HSX : Hid (∀ u, Below u2.heap.size u2 u → (fun u => u.cell? ⟨X, 6, none⟩ = some (.slice fa lf fc) ∧ u.cell? ⟨X, 7, none⟩ = some (.slice sa ls sc)) u) := fun u hu => ⟨(hu.cell (p := ⟨X, 6, none⟩) (World.block_lt_of_cell? _ _ hcf)).trans hcf, (hu.cell (p := ⟨X, 7, none⟩) (World.block_lt_of_cell? _ _ hcs)).trans hcs⟩
        clear hcf hcs hlf hls hlc hrd hdo hW8
        go_wp2_with fail
        refine wp_region_held_drew (S := (fun u => u.cell? ⟨X, 6, none⟩ = some (.slice fa lf fc) ∧ u.cell? ⟨X, 7, none⟩ = some (.slice sa ls sc))) (by kernel_rfl) (HSX.out _ (Below.drew (Below.refl _ _))) (fun hHeld => ?_)
        have V0 : Hid (Below u2.heap.size u2 u2.drew) := Below.drew (Below.refl _ _)
        have N0 := Lib.hid (PSN.out.m.on V0.out)
        first
          | (refine held_take 0 118 (v := ?_) rfl rfl (by kernel_rfl) (by kernel_rfl) (by kernel_rfl) (fun _ _ _ h => h) (by assumption) (by rfl) ?_ ?_; rotate_left; (focus (intro w hSw; obtain ⟨hS0, hS1⟩ := hSw; go_simp <;> with_reducible rfl)))
          | refine held_pass 0 118 rfl rfl (by kernel_rfl) (by kernel_rfl) (by kernel_rfl) (fun _ _ _ h => h) (by assumption) (by rfl) ?_
        simp only [Act.put, List.setIfInBounds_toArray, List.set_cons_zero, List.set_cons_succ]
        first
          | (refine held_take 2 120 (v := ?_) rfl rfl (by kernel_rfl) (by kernel_rfl) (by kernel_rfl) (fun _ _ _ h => h) (by assumption) (by rfl) ?_ ?_; rotate_left; (focus (intro w hSw; obtain ⟨hS0, hS1⟩ := hSw; go_simp <;> with_reducible rfl)))
          | refine held_pass 2 120 rfl rfl (by kernel_rfl) (by kernel_rfl) (by kernel_rfl) (fun _ _ _ h => h) (by assumption) (by rfl) ?_
        simp only [Act.put, List.setIfInBounds_toArray, List.set_cons_zero, List.set_cons_succ]
        first
          | (refine held_take 3 121 (v := ?_) rfl rfl (by kernel_rfl) (by kernel_rfl) (by kernel_rfl) (fun _ _ _ h => h) (by assumption) (by rfl) ?_ ?_; rotate_left; (focus (intro w hSw; obtain ⟨hS0, hS1⟩ := hSw; go_simp <;> with_reducible rfl)))
          | refine held_pass 3 121 rfl rfl (by kernel_rfl) (by kernel_rfl) (by kernel_rfl) (fun _ _ _ h => h) (by assumption) (by rfl) ?_
        simp only [Act.put, List.setIfInBounds_toArray, List.set_cons_zero, List.set_cons_succ]
        first
          | (refine held_take 4 122 (v := ?_) rfl rfl (by kernel_rfl) (by kernel_rfl) (by kernel_rfl) (fun _ _ _ h => h) (by assumption) (by rfl) ?_ ?_; rotate_left; (focus (intro w hSw; obtain ⟨hS0, hS1⟩ := hSw; go_simp <;> with_reducible rfl)))
          | refine held_pass 4 122 rfl rfl (by kernel_rfl) (by kernel_rfl) (by kernel_rfl) (fun _ _ _ h => h) (by assumption) (by rfl) ?_
        simp only [Act.put, List.setIfInBounds_toArray, List.set_cons_zero, List.set_cons_succ]
        first
          | (refine held_take 5 123 (v := ?_) rfl rfl (by kernel_rfl) (by kernel_rfl) (by kernel_rfl) (fun _ _ _ h => h) (by assumption) (by rfl) ?_ ?_; rotate_left; (focus (intro w hSw; obtain ⟨hS0, hS1⟩ := hSw; go_simp <;> with_reducible rfl)))
          | refine held_pass 5 123 rfl rfl (by kernel_rfl) (by kernel_rfl) (by kernel_rfl) (fun _ _ _ h => h) (by assumption) (by rfl) ?_
        simp only [Act.put, List.setIfInBounds_toArray, List.set_cons_zero, List.set_cons_succ]
        first
          | (refine held_take 6 124 (v := ?_) rfl rfl (by kernel_rfl) (by kernel_rfl) (by kernel_rfl) (fun _ _ _ h => h) (by assumption) (by rfl) ?_ ?_; rotate_left; (focus (intro w hSw; obtain ⟨hS0, hS1⟩ := hSw; go_simp <;> with_reducible rfl)))
          | refine held_pass 6 124 rfl rfl (by kernel_rfl) (by kernel_rfl) (by kernel_rfl) (fun _ _ _ h => h) (by assumption) (by rfl) ?_
        simp only [Act.put, List.setIfInBounds_toArray, List.set_cons_zero, List.set_cons_succ]
        first
          | (refine held_take 7 125 (v := ?_) rfl rfl (by kernel_rfl) (by kernel_rfl) (by kernel_rfl) (fun _ _ _ h => h) (by assumption) (by rfl) ?_ ?_; rotate_left; (focus (intro w hSw; obtain ⟨hS0, hS1⟩ := hSw; go_simp <;> with_reducible rfl)))
          | refine held_pass 7 125 rfl rfl (by kernel_rfl) (by kernel_rfl) (by kernel_rfl) (fun _ _ _ h => h) (by assumption) (by rfl) ?_
        simp only [Act.put, List.setIfInBounds_toArray, List.set_cons_zero, List.set_cons_succ]
        first
          | (refine held_take 8 126 (v := ?_) rfl rfl (by kernel_rfl) (by kernel_rfl) (by kernel_rfl) (fun _ _ _ h => h) (by assumption) (by rfl) ?_ ?_; rotate_left; (focus (intro w hSw; obtain ⟨hS0, hS1⟩ := hSw; go_simp <;> with_reducible rfl)))
          | refine held_pass 8 126 rfl rfl (by kernel_rfl) (by kernel_rfl) (by kernel_rfl) (fun _ _ _ h => h) (by assumption) (by rfl) ?_
        simp only [Act.put, List.setIfInBounds_toArray, List.set_cons_zero, List.set_cons_succ]
        refine held_call 1 119 rfl rfl (by kernel_rfl) (by rfl) (fun K hK => ?_)
        simp only [Go.wp_at_succ, Go.wp_at_zero]
        go_simp
        refine (HRDY.out _ N0.out).mono ?_
        rintro e k1 ⟨rfl, L1⟩
        have V1 := Lib.hid (V0.out.trans (L1.out.2.mono V0.out.size))
        first | (with_reducible refine hK.out _ _ ?_ (fun hHeld => ?_)) | (go_wp2_with fail; refine hK.out _ _ ?_ (fun hHeld => ?_))
        · exact HSX.out _ V1.out
        clear hK K
        try simp only [Act.put, List.setIfInBounds_toArray, List.set_cons_zero, List.set_cons_succ]
        first
          | (refine held_take 9 127 (v := ?_) rfl rfl (by kernel_rfl) (by kernel_rfl) (by kernel_rfl) (fun _ _ _ h => h) (by assumption) (by rfl) ?_ ?_; rotate_left; (focus (intro w hSw; obtain ⟨hS0, hS1⟩ := hSw; go_simp <;> with_reducible rfl)))
          | refine held_pass 9 127 rfl rfl (by kernel_rfl) (by kernel_rfl) (by kernel_rfl) (fun _ _ _ h => h) (by assumption) (by rfl) ?_
        simp only [Act.put, List.setIfInBounds_toArray, List.set_cons_zero, List.set_cons_succ]
        try simp only [bne_self_eq_false]
        first
          | (refine held_take 10 128 (v := ?_) rfl rfl (by kernel_rfl) (by kernel_rfl) (by kernel_rfl) (fun _ _ _ h => h) (by assumption) (by rfl) ?_ ?_; rotate_left; (focus (intro w hSw; obtain ⟨hS0, hS1⟩ := hSw; go_simp <;> with_reducible rfl)))
          | refine held_pass 10 128 rfl rfl (by kernel_rfl) (by kernel_rfl) (by kernel_rfl) (fun _ _ _ h => h) (by assumption) (by rfl) ?_
        simp only [Act.put, List.setIfInBounds_toArray, List.set_cons_zero, List.set_cons_succ]
        first
          | (refine held_take 11 129 (v := ?_) rfl rfl (by kernel_rfl) (by kernel_rfl) (by kernel_rfl) (fun _ _ _ h => h) (by assumption) (by rfl) ?_ ?_; rotate_left; (focus (intro w hSw; obtain ⟨hS0, hS1⟩ := hSw; go_simp <;> with_reducible rfl)))
          | refine held_pass 11 129 rfl rfl (by kernel_rfl) (by kernel_rfl) (by kernel_rfl) (fun _ _ _ h => h) (by assumption) (by rfl) ?_
        simp only [Act.put, List.setIfInBounds_toArray, List.set_cons_zero, List.set_cons_succ]
        first
          | (refine held_take 13 131 (v := ?_) rfl rfl (by kernel_rfl) (by kernel_rfl) (by kernel_rfl) (fun _ _ _ h => h) (by assumption) (by rfl) ?_ ?_; rotate_left; (focus (intro w hSw; obtain ⟨hS0, hS1⟩ := hSw; go_simp <;> with_reducible rfl)))
          | refine held_pass 13 131 rfl rfl (by kernel_rfl) (by kernel_rfl) (by kernel_rfl) (fun _ _ _ h => h) (by assumption) (by rfl) ?_
        simp only [Act.put, List.setIfInBounds_toArray, List.set_cons_zero, List.set_cons_succ]
        first
          | (refine held_take 14 132 (v := ?_) rfl rfl (by kernel_rfl) (by kernel_rfl) (by kernel_rfl) (fun _ _ _ h => h) (by assumption) (by rfl) ?_ ?_; rotate_left; (focus (intro w hSw; obtain ⟨hS0, hS1⟩ := hSw; go_simp <;> with_reducible rfl)))
          | refine held_pass 14 132 rfl rfl (by kernel_rfl) (by kernel_rfl) (by kernel_rfl) (fun _ _ _ h => h) (by assumption) (by rfl) ?_
        simp only [Act.put, List.setIfInBounds_toArray, List.set_cons_zero, List.set_cons_succ]
        first
          | (refine held_take 15 133 (v := ?_) rfl rfl (by kernel_rfl) (by kernel_rfl) (by kernel_rfl) (fun _ _ _ h => h) (by assumption) (by rfl) ?_ ?_; rotate_left; (focus (intro w hSw; obtain ⟨hS0, hS1⟩ := hSw; go_simp <;> with_reducible rfl)))
          | refine held_pass 15 133 rfl rfl (by kernel_rfl) (by kernel_rfl) (by kernel_rfl) (fun _ _ _ h => h) (by assumption) (by rfl) ?_
        simp only [Act.put, List.setIfInBounds_toArray, List.set_cons_zero, List.set_cons_succ]
        first
          | (refine held_take 16 134 (v := ?_) rfl rfl (by kernel_rfl) (by kernel_rfl) (by kernel_rfl) (fun _ _ _ h => h) (by assumption) (by rfl) ?_ ?_; rotate_left; (focus (intro w hSw; obtain ⟨hS0, hS1⟩ := hSw; go_simp <;> with_reducible rfl)))
          | refine held_pass 16 134 rfl rfl (by kernel_rfl) (by kernel_rfl) (by kernel_rfl) (fun _ _ _ h => h) (by assumption) (by rfl) ?_
        simp only [Act.put, List.setIfInBounds_toArray, List.set_cons_zero, List.set_cons_succ]
        first
          | (refine held_take 17 135 (v := ?_) rfl rfl (by kernel_rfl) (by kernel_rfl) (by kernel_rfl) (fun _ _ _ h => h) (by assumption) (by rfl) ?_ ?_; rotate_left; (focus (intro w hSw; obtain ⟨hS0, hS1⟩ := hSw; go_simp <;> with_reducible rfl)))
          | refine held_pass 17 135 rfl rfl (by kernel_rfl) (by kernel_rfl) (by kernel_rfl) (fun _ _ _ h => h) (by assumption) (by rfl) ?_
        simp only [Act.put, List.setIfInBounds_toArray, List.set_cons_zero, List.set_cons_succ]
        first
          | (refine held_take 18 136 (v := ?_) rfl rfl (by kernel_rfl) (by kernel_rfl) (by kernel_rfl) (fun _ _ _ h => h) (by assumption) (by rfl) ?_ ?_; rotate_left; (focus (intro w hSw; obtain ⟨hS0, hS1⟩ := hSw; go_simp <;> with_reducible rfl)))
          | refine held_pass 18 136 rfl rfl (by kernel_rfl) (by kernel_rfl) (by kernel_rfl) (fun _ _ _ h => h) (by assumption) (by rfl) ?_
        simp only [Act.put, List.setIfInBounds_toArray, List.set_cons_zero, List.set_cons_succ]
        first
          | (refine held_take 19 137 (v := ?_) rfl rfl (by kernel_rfl) (by kernel_rfl) (by kernel_rfl) (fun _ _ _ h => h) (by assumption) (by rfl) ?_ ?_; rotate_left; (focus (intro w hSw; obtain ⟨hS0, hS1⟩ := hSw; go_simp <;> with_reducible rfl)))
          | refine held_pass 19 137 rfl rfl (by kernel_rfl) (by kernel_rfl) (by kernel_rfl) (fun _ _ _ h => h) (by assumption) (by rfl) ?_
        simp only [Act.put, List.setIfInBounds_toArray, List.set_cons_zero, List.set_cons_succ]
        refine held_call 12 130 rfl rfl (by kernel_rfl) (by rfl) (fun K hK => ?_)
        simp only [Go.wp_at_succ, Go.wp_at_zero]
        go_simp
        refine (HDON.out _ L1.out.1).mono ?_
        rintro e k2 ⟨rfl, L2⟩
        have V2 := Lib.hid (V1.out.trans (L2.out.2.mono V1.out.size))
        first | (with_reducible refine hK.out _ _ ?_ (fun hHeld => ?_)) | (go_wp2_with fail; refine hK.out _ _ ?_ (fun hHeld => ?_))
        · exact HSX.out _ V2.out
        clear hK K
        try simp only [Act.put, List.setIfInBounds_toArray, List.set_cons_zero, List.set_cons_succ]
        first
          | (refine held_take 20 138 (v := ?_) rfl rfl (by kernel_rfl) (by kernel_rfl) (by kernel_rfl) (fun _ _ _ h => h) (by assumption) (by rfl) ?_ ?_; rotate_left; (focus (intro w hSw; obtain ⟨hS0, hS1⟩ := hSw; go_simp <;> with_reducible rfl)))
          | refine held_pass 20 138 rfl rfl (by kernel_rfl) (by kernel_rfl) (by kernel_rfl) (fun _ _ _ h => h) (by assumption) (by rfl) ?_
        simp only [Act.put, List.setIfInBounds_toArray, List.set_cons_zero, List.set_cons_succ]
        try simp only [bne_self_eq_false]
        first
          | (refine held_take 21 139 (v := ?_) rfl rfl (by kernel_rfl) (by kernel_rfl) (by kernel_rfl) (fun _ _ _ h => h) (by assumption) (by rfl) ?_ ?_; rotate_left; (focus (intro w hSw; obtain ⟨hS0, hS1⟩ := hSw; go_simp <;> with_reducible rfl)))
          | refine held_pass 21 139 rfl rfl (by kernel_rfl) (by kernel_rfl) (by kernel_rfl) (fun _ _ _ h => h) (by assumption) (by rfl) ?_
        simp only [Act.put, List.setIfInBounds_toArray, List.set_cons_zero, List.set_cons_succ]
        first
          | (refine held_take 22 140 (v := ?_) rfl rfl (by kernel_rfl) (by kernel_rfl) (by kernel_rfl) (fun _ _ _ h => h) (by assumption) (by rfl) ?_ ?_; rotate_left; (focus (intro w hSw; obtain ⟨hS0, hS1⟩ := hSw; go_simp <;> with_reducible rfl)))
          | refine held_pass 22 140 rfl rfl (by kernel_rfl) (by kernel_rfl) (by kernel_rfl) (fun _ _ _ h => h) (by assumption) (by rfl) ?_
        simp only [Act.put, List.setIfInBounds_toArray, List.set_cons_zero, List.set_cons_succ]
        first
          | (refine held_take 23 141 (v := ?_) rfl rfl (by kernel_rfl) (by kernel_rfl) (by kernel_rfl) (fun _ _ _ h => h) (by assumption) (by rfl) ?_ ?_; rotate_left; (focus (intro w hSw; obtain ⟨hS0, hS1⟩ := hSw; go_simp <;> with_reducible rfl)))
          | refine held_pass 23 141 rfl rfl (by kernel_rfl) (by kernel_rfl) (by kernel_rfl) (fun _ _ _ h => h) (by assumption) (by rfl) ?_
        simp only [Act.put, List.setIfInBounds_toArray, List.set_cons_zero, List.set_cons_succ]
        first
          | (refine held_take 25 143 (v := ?_) rfl rfl (by kernel_rfl) (by kernel_rfl) (by kernel_rfl) (fun _ _ _ h => h) (by assumption) (by rfl) ?_ ?_; rotate_left; (focus (intro w hSw; obtain ⟨hS0, hS1⟩ := hSw; go_simp <;> with_reducible rfl)))
          | refine held_pass 25 143 rfl rfl (by kernel_rfl) (by kernel_rfl) (by kernel_rfl) (fun _ _ _ h => h) (by assumption) (by rfl) ?_
        simp only [Act.put, List.setIfInBounds_toArray, List.set_cons_zero, List.set_cons_succ]
        refine held_call 24 142 rfl rfl (by kernel_rfl) (by rfl) (fun K hK => ?_)
        simp only [Go.wp_at_succ, Go.wp_at_zero]
        go_simp
        refine (HTC.out _ L2.out.1).mono ?_
        rintro e k3 ⟨ta, tc, rfl, L3⟩
        have V3 := Lib.hid (V2.out.trans (L3.out.2.2.mono V2.out.size))
        first | (with_reducible refine hK.out _ _ ?_ (fun hHeld => ?_)) | (go_wp2_with fail; refine hK.out _ _ ?_ (fun hHeld => ?_))
        · exact HSX.out _ V3.out
        clear hK K
        try simp only [Act.put, List.setIfInBounds_toArray, List.set_cons_zero, List.set_cons_succ]
        refine held_call 26 144 rfl rfl (by kernel_rfl) (by rfl) (fun K hK => ?_)
        simp only [Go.wp_at_succ, Go.wp_at_zero]
        go_simp
        refine (HRC.out _ L3.out.2.1).mono ?_
        rintro e k4 ⟨ra, rc, rfl, L4⟩
        have V4 := Lib.hid (V3.out.trans (L4.out.2.2.mono V3.out.size))
        first | (with_reducible refine hK.out _ _ ?_ (fun hHeld => ?_)) | (go_wp2_with fail; refine hK.out _ _ ?_ (fun hHeld => ?_))
        · exact HSX.out _ V4.out
        clear hK K
        try simp only [Act.put, List.setIfInBounds_toArray, List.set_cons_zero, List.set_cons_succ]
        refine held_call 27 145 rfl rfl (by kernel_rfl) (by rfl) (fun K hK => ?_)
        simp only [Go.wp_at_succ, Go.wp_at_zero]
        go_simp
        refine (HSC.out _ _ _ L4.out.2.1 (L3.out.1.on L4.out.2.2) L4.out.1).mono ?_
        rintro e k5 ⟨rfl, L5⟩
        have V5 := Lib.hid (V4.out.trans (L5.out.2.mono V4.out.size))
        first | (with_reducible refine hK.out _ _ ?_ (fun hHeld => ?_)) | (go_wp2_with fail; refine hK.out _ _ ?_ (fun hHeld => ?_))
        · exact HSX.out _ V5.out
        clear hK K
        try simp only [Act.put, List.setIfInBounds_toArray, List.set_cons_zero, List.set_cons_succ]
        first
          | (refine held_take 28 146 (v := ?_) rfl rfl (by kernel_rfl) (by kernel_rfl) (by kernel_rfl) (fun _ _ _ h => h) (by assumption) (by rfl) ?_ ?_; rotate_left; (focus (intro w hSw; obtain ⟨hS0, hS1⟩ := hSw; go_simp <;> with_reducible rfl)))
          | refine held_pass 28 146 rfl rfl (by kernel_rfl) (by kernel_rfl) (by kernel_rfl) (fun _ _ _ h => h) (by assumption) (by rfl) ?_
        simp only [Act.put, List.setIfInBounds_toArray, List.set_cons_zero, List.set_cons_succ]
        first
          | (refine held_take 29 147 (v := ?_) rfl rfl (by kernel_rfl) (by kernel_rfl) (by kernel_rfl) (fun _ _ _ h => h) (by assumption) (by rfl) ?_ ?_; rotate_left; (focus (intro w hSw; obtain ⟨hS0, hS1⟩ := hSw; go_simp <;> with_reducible rfl)))
          | refine held_pass 29 147 rfl rfl (by kernel_rfl) (by kernel_rfl) (by kernel_rfl) (fun _ _ _ h => h) (by assumption) (by rfl) ?_
        simp only [Act.put, List.setIfInBounds_toArray, List.set_cons_zero, List.set_cons_succ]
        refine wpAnyH_done (by kernel_rfl) ?_ _
        clear hHeld
        go_wp2_with fail
        go_roundw
        case rel => exact ⟨i + 1, s2, dd, by go_num, by omega, by omega, ⟨PSN.out.m.on V5.out, PSN.out.r, PSN.out.n, PSN.out.c, PSN.out.v⟩⟩
        case measure => simp [intOf]; omega
    · have hbel := HR.out.m.bel
      have HBL := Lib.hid hbel
      have HSZ := Lib.hid HR.out.m.size
      clear hbel
      by_cases l1 : i < q
      · have i1 : (i : Int) < (q : Int) := by omega
        have i2 : ¬ ((i : Int) < 40) := by omega
        go_wp2_with fail
        refine (HT.out _).mono ?_
        rintro e w2 ⟨rfl, B2⟩
        go_wp2
        go_returns
        rw [← HNN.out]
        exact ⟨by first | rfl | trivial, HBL.out.trans (B2.mono HSZ.out)⟩
      · have i1 : ¬ ((i : Int) < (q : Int)) := by omega
        go_wp2_with fail
        refine (HT.out _).mono ?_
        rintro e w2 ⟨rfl, B2⟩
        go_wp2
        go_returns
        rw [← HNN.out]
        exact ⟨by first | rfl | trivial, HBL.out.trans (B2.mono HSZ.out)⟩
theorem walk (a r k ce : Int) (cv : Value) (C : List Int) (sv : Value) (l : List YStepV) (w : World) (hw : (Lit.int .i64 a).wf = true) (_ : (Lit.int .i64 r).wf = true) (_ : (Lit.int .i64 k).wf = true) (hI : Wf ce ∧ Ints w w.heap.size cv C) (hS : YSteps w w.heap.size sv l) :
    Calls Try.prog 3 #[.int .i64 a, .agg #[.int .i64 r, .int .i64 k], .agg #[.int .i64 ce, cv], sv] w fun e w' => e = .returned (.bool true) ∧ Below w.heap.size w w' := by
  obtain ⟨hcw, hI⟩ := hI
  obtain ⟨va, vc, rfl⟩ : ∃ x y, cv = .slice x C.length y := by obtain ⟨x, y, h, _⟩ := hI; exact ⟨x, y, h⟩
  obtain ⟨sa, sc, hsv⟩ : ∃ x y, sv = .slice x l.length y := by obtain ⟨x, y, h, _⟩ := hS; exact ⟨x, y, h⟩
  by_cases h : 8 < C.length ∨ ¬ (1 ≤ a ∧ a ≤ 5 ∧ mayV r k = true ∧ ChainV.may ⟨ce, C⟩)
  · exact out a r k ce va _ vc C sv w hw hcw hI sa _ sc hsv h
  · have h' : 1 ≤ a ∧ a ≤ 5 ∧ mayV r k = true ∧ ChainV.may ⟨ce, C⟩ := Decidable.not_not.1 fun g => h (.inr g)
    obtain ⟨mm, rfl⟩ : ∃ mm : Nat, a = mm := ⟨a.toNat, by omega⟩
    exact main mm (by omega) (by omega) r k ce va _ vc C sv l w hI h'.2.2.1 h'.2.2.2 hS


set_option maxRecDepth 100000 in
theorem lifted (os : Os) (started : os.Started) (H : Type) (enc : TypeId × Value → H) :
    ReturnsInHanded {} Try.checked os 3 .any (Rows.tallyPlaysSpec.pre6 enc Try.prog Try.f3 Rows.tallyPlaysRow.domain false) (Rows.tallyPlaysSpec.post enc Try.prog Try.f3 false true false false) := by
  refine returnsInHanded_of_change (C := Try.checked) own started (by kernel_rfl) Try.func3
    (ChangeSpec.witness6 (enc := enc) (C := Try.checked) false ⟨#[], #[.int .i64 0, .agg #[.int .i64 0, .int .i64 0], .agg #[.int .i64 0, .slice none 0 0], .slice none 0 0], []⟩ 8 (by kernel_rfl) (by kernel_rfl) (by kernel_rfl) (by kernel_rfl)) ?_
  intro W base args ds gs before hval0 hW hcnd _
  have hval : ∀ (j : Nat) t v, Try.f3.params[j]? = some t → args[j]? = some v → Value.okWide Try.prog W .any base t v := hval0
  have hW' := hW
  obtain ⟨p, q, hA0, hV, rfl, hfz, hnd⟩ := hW
  have hA : DataW.TrodAll enc Try.prog W 0 (fun _ => true) true Try.f3.params.toList args.toList ds p := hA0
  rw [Try.params3] at hA hval
  obtain ⟨v0, vs0, d0, ds0, p0, q0, hargs, rfl, rfl, h0, r0⟩ := trodAll_cons hA
  obtain ⟨v1, vs1, d1, ds1, p1, q1, rfl, rfl, rfl, h1, r1⟩ := trodAll_cons r0
  obtain ⟨v2, vs2, d2, ds2, p2, q2, rfl, rfl, rfl, h2, r2⟩ := trodAll_cons r1
  obtain ⟨v3, vs3, d3, ds3, p3, q3, rfl, rfl, rfl, h3, r3⟩ := trodAll_cons r2
  obtain ⟨rfl, rfl, rfl⟩ := trodAll_nil r3
  obtain rfl : args = #[v0, v1, v2, v3] := by cases args; simp_all
  obtain ⟨rfl, rfl⟩ := trodVars_none hV
  obtain ⟨a0, rfl, rfl, rfl, w0⟩ := open_int Try.underlying3 (hval 0 3 v0 rfl rfl) h0
  have k1 := h1
  have lt1 : ∀ x ∈ p1, x.block < W.heap.size := by obtain ⟨m, hm⟩ := k1; exact DataW.trod_lt m _ _ _ hm
  obtain ⟨xa1, xb1, rfl, wa1, wb1⟩ := ballot_open (hval 1 23 v1 rfl rfl) h1
  have k2 := h2
  have lt2 : ∀ x ∈ p2, x.block < W.heap.size := by obtain ⟨m, hm⟩ := k2; exact DataW.trod_lt m _ _ _ hm
  obtain ⟨xa2, xb2, xc2, xd2, l2, rfl, w2⟩ := chain_openW (hval 2 26 v2 rfl rfl) h2
  obtain ⟨a3, len3, cap3, rfl⟩ := okWide_slice Try.underlying27 (hval 3 27 v3 rfl rfl)
  have k3 := h3
  have lt3 : ∀ x ∈ p3, x.block < W.heap.size := by obtain ⟨m, hm⟩ := k3; exact DataW.trod_lt m _ _ _ hm
  obtain ⟨l3, w3⟩ := ysteps_open h3
  clear hA0 hval0
  refine (walk a0 xa1 xb1 xa2 (.slice xb2 xc2 xd2) l2 (.slice a3 len3 cap3) l3 W w0 wa1 wb1 w2 w3).mono fun e W' ⟨he, bel⟩ => ?_
  subst he
  exact ⟨_, rfl, _, _, _, [], _, [], hW', trodAll_mk1 (shut_bool Try.underlying4 _), (trodAll_cons_mk (shut_int Try.underlying3 w0) (trodAll_cons_mk (Below.trod laidOut (by kernel_rfl) (of_decide_eq_true (by kernel_rfl)) k1 bel lt1) (trodAll_cons_mk (Below.trod laidOut (by kernel_rfl) (of_decide_eq_true (by kernel_rfl)) k2 bel lt2) (trodAll_cons_mk (Below.trod laidOut (by kernel_rfl) (of_decide_eq_true (by kernel_rfl)) k3 bel lt3) trodAll_mk0)))), rfl, bel.frame _, fun h => by cases h⟩

theorem over : Rows.tallyPlaysRow.holds Try.pinned (OpenSpec.ofChange Rows.tallyPlaysSpec) :=
  OpenClaim.holds_of_wide 3 Try.f3 rfl rfl rfl rfl rfl rfl rfl ⟨rfl, rfl, rfl, rfl, rfl⟩ rfl rfl rfl rfl rfl (by kernel_rfl) Try.func3 (by kernel_rfl)
    (of_decide_eq_true (by kernel_rfl)) (by unfold Func.isWrapper; first | (rw [if_pos (by decide +kernel)]; kernel_rfl) | (rw [if_neg (by decide +kernel)]; exact ⟨rfl, rfl⟩))
    (fun os started H enc _ => lifted os started H enc)
end Go.Proofs.Ytiidmiioegdfaaa.TallyPlays

namespace Go.Proofs.Ytiidmiioegdfaaa
theorem tallyPlays_holds : Rows.TallyPlaysSaid := TallyPlays.over
#print axioms tallyPlays_holds
end Go.Proofs.Ytiidmiioegdfaaa
