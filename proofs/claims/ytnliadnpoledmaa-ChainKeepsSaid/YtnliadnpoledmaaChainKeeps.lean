/-
  Who is in the next one and was in this one has those above it that it had, or some of them, in their order (12.3), as ChainKeeps says: for any two chains, any node. No condition.
-/
import Derived.Test.YtnliadnpoledmaaChainTwo
import Derived.Test.YtnliadnpoledmaaChainT
import Derived.Test.YtnliadnpoledmaaItemArgs
namespace Go.Proofs.Ytnliadnpoledmaa.ChainKeeps
open Go.ChangeShapes Go.WideShapes Go.ChangeAt Go.RowKit

theorem abv_at {L : List Int} (hn : L.Nodup) {j : Nat} (hj : j < L.length) : abvV L (L.getD j 0) = chAt L ((j : Int) - 1) := by
  unfold abvV
  rw [if_pos (chGet_mem hj), nodup_first hn hj]
theorem abv_mem {L : List Int} {x : Int} (hx : x ∈ L) : abvV L x = chAt L ((L.idxOf x : Int) - 1) := by
  unfold abvV
  rw [if_pos hx]

set_option maxHeartbeats 4000000 in
set_option maxRecDepth 100000 in
theorem many (ea : Int) (va : Value) (A : List Int) (eb : Int) (vb : Value) (L : List Int) (node : Int) (w : World) (hA : Ints w w.heap.size va A) (hL : Ints w w.heap.size vb L) (h1 : ¬ A.length ≤ 10) :
    Calls Try.prog 6 #[.agg #[.int .i64 ea, va], .agg #[.int .i64 eb, vb], .int .i64 node] w fun e w' => e = .returned (.bool true) ∧ Below w.heap.size w w' := by
  have HT := Lib.hid (fun u => told12_any u)
  have HFA : Hid (∀ u, P2 w u ea va A eb vb L → Calls Try.prog 17 #[.agg #[.int .i64 ea, va]] u fun e w' => e = .returned (.bool false) ∧ Below u.heap.size u w') := fun u hu => few12_r ea va A _ u hu.ia (decide_eq_false h1)
  have T := Lib.hid (P2.start hA hL (ea := ea) (eb := eb))
  clear hA hL h1
  go_enter Try.func6, Try.ntmps6
  obtain ⟨⟨c0, c1⟩, d0, d1⟩ := T.out.cells
  go_wp2_with fail
  clear c0 c1 d0 d1
  refine (HFA.out _ T.out).mono ?_
  rintro e w2 ⟨rfl, B⟩
  have T' := Lib.hid (T.out.step B)
  clear B T HFA
  obtain ⟨⟨c0, c1⟩, d0, d1⟩ := T'.out.cells
  go_wp2_with fail
  clear c0 c1 d0 d1
  refine (HT.out _).mono ?_
  rintro e w9 ⟨rfl, B⟩
  have T9 := Lib.hid (T'.out.step B)
  clear B T'
  go_wp2
  go_returns
  exact ⟨rfl, T9.out.bel⟩

set_option maxHeartbeats 4000000 in
set_option maxRecDepth 100000 in
theorem many2 (ea : Int) (va : Value) (A : List Int) (eb : Int) (vb : Value) (L : List Int) (node : Int) (w : World) (hA : Ints w w.heap.size va A) (hL : Ints w w.heap.size vb L) (h1 : A.length ≤ 10) (h2 : ¬ L.length ≤ 10) :
    Calls Try.prog 6 #[.agg #[.int .i64 ea, va], .agg #[.int .i64 eb, vb], .int .i64 node] w fun e w' => e = .returned (.bool true) ∧ Below w.heap.size w w' := by
  have HT := Lib.hid (fun u => told12_any u)
  have HFA : Hid (∀ u, P2 w u ea va A eb vb L → Calls Try.prog 17 #[.agg #[.int .i64 ea, va]] u fun e w' => e = .returned (.bool true) ∧ Below u.heap.size u w') := fun u hu => few12_r ea va A _ u hu.ia (decide_eq_true h1)
  have HFB : Hid (∀ u, P2 w u ea va A eb vb L → Calls Try.prog 17 #[.agg #[.int .i64 eb, vb]] u fun e w' => e = .returned (.bool false) ∧ Below u.heap.size u w') := fun u hu => few12_r eb vb L _ u hu.ib (decide_eq_false h2)
  have T := Lib.hid (P2.start hA hL (ea := ea) (eb := eb))
  clear hA hL h1 h2
  go_enter Try.func6, Try.ntmps6
  obtain ⟨⟨c0, c1⟩, d0, d1⟩ := T.out.cells
  go_wp2_with fail
  clear c0 c1 d0 d1
  refine (HFA.out _ T.out).mono ?_
  rintro e w2 ⟨rfl, B⟩
  have T' := Lib.hid (T.out.step B)
  clear B T HFA
  obtain ⟨⟨c0, c1⟩, d0, d1⟩ := T'.out.cells
  go_wp2_with fail
  clear c0 c1 d0 d1
  refine (HFB.out _ T'.out).mono ?_
  rintro e w3 ⟨rfl, B⟩
  have T'' := Lib.hid (T'.out.step B)
  clear B T' HFB
  obtain ⟨⟨c0, c1⟩, d0, d1⟩ := T''.out.cells
  go_wp2_with fail
  clear c0 c1 d0 d1
  refine (HT.out _).mono ?_
  rintro e w9 ⟨rfl, B⟩
  have T9 := Lib.hid (T''.out.step B)
  clear B T''
  go_wp2
  go_returns
  exact ⟨rfl, T9.out.bel⟩

set_option maxHeartbeats 4000000 in
set_option maxRecDepth 100000 in
theorem apart (ea : Int) (va : Value) (A : List Int) (eb : Int) (vb : Value) (L : List Int) (node : Int) (w : World) (hA : Ints w w.heap.size va A) (hL : Ints w w.heap.size vb L) (h1 : A.length ≤ 10) (h2 : L.length ≤ 10) (h3 : ¬ nextC ea A eb L 5) :
    Calls Try.prog 6 #[.agg #[.int .i64 ea, va], .agg #[.int .i64 eb, vb], .int .i64 node] w fun e w' => e = .returned (.bool true) ∧ Below w.heap.size w w' := by
  have HT := Lib.hid (fun u => told12_any u)
  have HFA : Hid (∀ u, P2 w u ea va A eb vb L → Calls Try.prog 17 #[.agg #[.int .i64 ea, va]] u fun e w' => e = .returned (.bool true) ∧ Below u.heap.size u w') := fun u hu => few12_r ea va A _ u hu.ia (decide_eq_true h1)
  have HFB : Hid (∀ u, P2 w u ea va A eb vb L → Calls Try.prog 17 #[.agg #[.int .i64 eb, vb]] u fun e w' => e = .returned (.bool true) ∧ Below u.heap.size u w') := fun u hu => few12_r eb vb L _ u hu.ib (decide_eq_true h2)
  have HN : Hid (∀ u, P2 w u ea va A eb vb L → Calls Try.prog 14 #[.agg #[.int .i64 ea, va], .agg #[.int .i64 eb, vb], .int .i64 5] u fun e w' => e = .returned (.bool false) ∧ Below u.heap.size u w') := fun u hu => chnext_r ea va A eb vb L 5 _ u hu.ia hu.ib (Nat.le_refl _) (decide_eq_false h3)
  have T := Lib.hid (P2.start hA hL (ea := ea) (eb := eb))
  clear hA hL h1 h2 h3
  go_enter Try.func6, Try.ntmps6
  obtain ⟨⟨c0, c1⟩, d0, d1⟩ := T.out.cells
  go_wp2_with fail
  clear c0 c1 d0 d1
  refine (HFA.out _ T.out).mono ?_
  rintro e w2 ⟨rfl, B⟩
  have T' := Lib.hid (T.out.step B)
  clear B T HFA
  obtain ⟨⟨c0, c1⟩, d0, d1⟩ := T'.out.cells
  go_wp2_with fail
  clear c0 c1 d0 d1
  refine (HFB.out _ T'.out).mono ?_
  rintro e w3 ⟨rfl, B⟩
  have T'' := Lib.hid (T'.out.step B)
  clear B T' HFB
  obtain ⟨⟨c0, c1⟩, d0, d1⟩ := T''.out.cells
  go_wp2_with fail
  clear c0 c1 d0 d1
  refine (HN.out _ T''.out).mono ?_
  rintro e w4 ⟨rfl, B⟩
  have T''' := Lib.hid (T''.out.step B)
  clear B T'' HN
  obtain ⟨⟨c0, c1⟩, d0, d1⟩ := T'''.out.cells
  go_wp2_with fail
  clear c0 c1 d0 d1
  refine (HT.out _).mono ?_
  rintro e w9 ⟨rfl, B⟩
  have T9 := Lib.hid (T'''.out.step B)
  clear B T'''
  go_wp2
  go_returns
  exact ⟨rfl, T9.out.bel⟩

set_option maxHeartbeats 4000000 in
set_option maxRecDepth 100000 in
theorem lacks (ea : Int) (va : Value) (A : List Int) (eb : Int) (vb : Value) (L : List Int) (node : Int) (w : World) (hA : Ints w w.heap.size va A) (hL : Ints w w.heap.size vb L) (h1 : A.length ≤ 10) (h2 : L.length ≤ 10) (h3 : nextC ea A eb L 5) (h4 : ¬ node ∈ A) :
    Calls Try.prog 6 #[.agg #[.int .i64 ea, va], .agg #[.int .i64 eb, vb], .int .i64 node] w fun e w' => e = .returned (.bool true) ∧ Below w.heap.size w w' := by
  have HT := Lib.hid (fun u => told12_any u)
  have HFA : Hid (∀ u, P2 w u ea va A eb vb L → Calls Try.prog 17 #[.agg #[.int .i64 ea, va]] u fun e w' => e = .returned (.bool true) ∧ Below u.heap.size u w') := fun u hu => few12_r ea va A _ u hu.ia (decide_eq_true h1)
  have HFB : Hid (∀ u, P2 w u ea va A eb vb L → Calls Try.prog 17 #[.agg #[.int .i64 eb, vb]] u fun e w' => e = .returned (.bool true) ∧ Below u.heap.size u w') := fun u hu => few12_r eb vb L _ u hu.ib (decide_eq_true h2)
  have HN : Hid (∀ u, P2 w u ea va A eb vb L → Calls Try.prog 14 #[.agg #[.int .i64 ea, va], .agg #[.int .i64 eb, vb], .int .i64 5] u fun e w' => e = .returned (.bool true) ∧ Below u.heap.size u w') := fun u hu => chnext_r ea va A eb vb L 5 _ u hu.ia hu.ib (Nat.le_refl _) (decide_eq_true h3)
  have HHA : Hid (∀ u, P2 w u ea va A eb vb L → Calls Try.prog 10 #[.agg #[.int .i64 ea, va], .int .i64 node] u fun e w' => e = .returned (.bool false) ∧ Below u.heap.size u w') := fun u hu => chhas_r ea va A (by omega) node _ u hu.ia (Nat.le_refl _) (decide_eq_false h4)
  have T := Lib.hid (P2.start hA hL (ea := ea) (eb := eb))
  clear hA hL h1 h2 h3 h4
  go_enter Try.func6, Try.ntmps6
  obtain ⟨⟨c0, c1⟩, d0, d1⟩ := T.out.cells
  go_wp2_with fail
  clear c0 c1 d0 d1
  refine (HFA.out _ T.out).mono ?_
  rintro e w2 ⟨rfl, B⟩
  have T' := Lib.hid (T.out.step B)
  clear B T HFA
  obtain ⟨⟨c0, c1⟩, d0, d1⟩ := T'.out.cells
  go_wp2_with fail
  clear c0 c1 d0 d1
  refine (HFB.out _ T'.out).mono ?_
  rintro e w3 ⟨rfl, B⟩
  have T'' := Lib.hid (T'.out.step B)
  clear B T' HFB
  obtain ⟨⟨c0, c1⟩, d0, d1⟩ := T''.out.cells
  go_wp2_with fail
  clear c0 c1 d0 d1
  refine (HN.out _ T''.out).mono ?_
  rintro e w4 ⟨rfl, B⟩
  have T''' := Lib.hid (T''.out.step B)
  clear B T'' HN
  obtain ⟨⟨c0, c1⟩, d0, d1⟩ := T'''.out.cells
  go_wp2_with fail
  clear c0 c1 d0 d1
  refine (HHA.out _ T'''.out).mono ?_
  rintro e w5 ⟨rfl, B⟩
  have T'''' := Lib.hid (T'''.out.step B)
  clear B T''' HHA
  obtain ⟨⟨c0, c1⟩, d0, d1⟩ := T''''.out.cells
  go_wp2_with fail
  clear c0 c1 d0 d1
  refine (HT.out _).mono ?_
  rintro e w9 ⟨rfl, B⟩
  have T9 := Lib.hid (T''''.out.step B)
  clear B T''''
  go_wp2
  go_returns
  exact ⟨rfl, T9.out.bel⟩

set_option maxHeartbeats 4000000 in
set_option maxRecDepth 100000 in
theorem lacks2 (ea : Int) (va : Value) (A : List Int) (eb : Int) (vb : Value) (L : List Int) (node : Int) (w : World) (hA : Ints w w.heap.size va A) (hL : Ints w w.heap.size vb L) (h1 : A.length ≤ 10) (h2 : L.length ≤ 10) (h3 : nextC ea A eb L 5) (h4 : node ∈ A) (h5 : ¬ node ∈ L) :
    Calls Try.prog 6 #[.agg #[.int .i64 ea, va], .agg #[.int .i64 eb, vb], .int .i64 node] w fun e w' => e = .returned (.bool true) ∧ Below w.heap.size w w' := by
  have HT := Lib.hid (fun u => told12_any u)
  have HFA : Hid (∀ u, P2 w u ea va A eb vb L → Calls Try.prog 17 #[.agg #[.int .i64 ea, va]] u fun e w' => e = .returned (.bool true) ∧ Below u.heap.size u w') := fun u hu => few12_r ea va A _ u hu.ia (decide_eq_true h1)
  have HFB : Hid (∀ u, P2 w u ea va A eb vb L → Calls Try.prog 17 #[.agg #[.int .i64 eb, vb]] u fun e w' => e = .returned (.bool true) ∧ Below u.heap.size u w') := fun u hu => few12_r eb vb L _ u hu.ib (decide_eq_true h2)
  have HN : Hid (∀ u, P2 w u ea va A eb vb L → Calls Try.prog 14 #[.agg #[.int .i64 ea, va], .agg #[.int .i64 eb, vb], .int .i64 5] u fun e w' => e = .returned (.bool true) ∧ Below u.heap.size u w') := fun u hu => chnext_r ea va A eb vb L 5 _ u hu.ia hu.ib (Nat.le_refl _) (decide_eq_true h3)
  have HHA : Hid (∀ u, P2 w u ea va A eb vb L → Calls Try.prog 10 #[.agg #[.int .i64 ea, va], .int .i64 node] u fun e w' => e = .returned (.bool true) ∧ Below u.heap.size u w') := fun u hu => chhas_r ea va A (by omega) node _ u hu.ia (Nat.le_refl _) (decide_eq_true h4)
  have HHB : Hid (∀ u, P2 w u ea va A eb vb L → Calls Try.prog 10 #[.agg #[.int .i64 eb, vb], .int .i64 node] u fun e w' => e = .returned (.bool false) ∧ Below u.heap.size u w') := fun u hu => chhas_r eb vb L (by omega) node _ u hu.ib (Nat.le_refl _) (decide_eq_false h5)
  have T := Lib.hid (P2.start hA hL (ea := ea) (eb := eb))
  clear hA hL h1 h2 h3 h4 h5
  go_enter Try.func6, Try.ntmps6
  obtain ⟨⟨c0, c1⟩, d0, d1⟩ := T.out.cells
  go_wp2_with fail
  clear c0 c1 d0 d1
  refine (HFA.out _ T.out).mono ?_
  rintro e w2 ⟨rfl, B⟩
  have T' := Lib.hid (T.out.step B)
  clear B T HFA
  obtain ⟨⟨c0, c1⟩, d0, d1⟩ := T'.out.cells
  go_wp2_with fail
  clear c0 c1 d0 d1
  refine (HFB.out _ T'.out).mono ?_
  rintro e w3 ⟨rfl, B⟩
  have T'' := Lib.hid (T'.out.step B)
  clear B T' HFB
  obtain ⟨⟨c0, c1⟩, d0, d1⟩ := T''.out.cells
  go_wp2_with fail
  clear c0 c1 d0 d1
  refine (HN.out _ T''.out).mono ?_
  rintro e w4 ⟨rfl, B⟩
  have T''' := Lib.hid (T''.out.step B)
  clear B T'' HN
  obtain ⟨⟨c0, c1⟩, d0, d1⟩ := T'''.out.cells
  go_wp2_with fail
  clear c0 c1 d0 d1
  refine (HHA.out _ T'''.out).mono ?_
  rintro e w5 ⟨rfl, B⟩
  have T'''' := Lib.hid (T'''.out.step B)
  clear B T''' HHA
  obtain ⟨⟨c0, c1⟩, d0, d1⟩ := T''''.out.cells
  go_wp2_with fail
  clear c0 c1 d0 d1
  refine (HHB.out _ T''''.out).mono ?_
  rintro e w6 ⟨rfl, B⟩
  have T''''' := Lib.hid (T''''.out.step B)
  clear B T'''' HHB
  obtain ⟨⟨c0, c1⟩, d0, d1⟩ := T'''''.out.cells
  go_wp2_with fail
  clear c0 c1 d0 d1
  refine (HT.out _).mono ?_
  rintro e w9 ⟨rfl, B⟩
  have T9 := Lib.hid (T'''''.out.step B)
  clear B T'''''
  go_wp2
  go_returns
  exact ⟨rfl, T9.out.bel⟩

theorem may_le5 {ea : Int} {A : List Int} (h : ChainV.may ⟨ea, A⟩) : A.length ≤ 5 := h.2.2.2.1

set_option maxHeartbeats 8000000 in
set_option maxRecDepth 100000 in
theorem main (ea : Int) (va : Value) (A : List Int) (eb : Int) (vb : Value) (L : List Int) (node : Int) (w : World) (hA : Ints w w.heap.size va A) (hL : Ints w w.heap.size vb L) (h1 : A.length ≤ 10) (h2 : L.length ≤ 10) (h3 : nextC ea A eb L 5) (h4 : node ∈ A) (h5 : node ∈ L) :
    Calls Try.prog 6 #[.agg #[.int .i64 ea, va], .agg #[.int .i64 eb, vb], .int .i64 node] w fun e w' => e = .returned (.bool true) ∧ Below w.heap.size w w' := by
  have HT := Lib.hid (fun u => told12_any u)
  have HFA : Hid (∀ u, P2 w u ea va A eb vb L → Calls Try.prog 17 #[.agg #[.int .i64 ea, va]] u fun e w' => e = .returned (.bool true) ∧ Below u.heap.size u w') := fun u hu => few12_r ea va A _ u hu.ia (decide_eq_true h1)
  have HFB : Hid (∀ u, P2 w u ea va A eb vb L → Calls Try.prog 17 #[.agg #[.int .i64 eb, vb]] u fun e w' => e = .returned (.bool true) ∧ Below u.heap.size u w') := fun u hu => few12_r eb vb L _ u hu.ib (decide_eq_true h2)
  have HN : Hid (∀ u, P2 w u ea va A eb vb L → Calls Try.prog 14 #[.agg #[.int .i64 ea, va], .agg #[.int .i64 eb, vb], .int .i64 5] u fun e w' => e = .returned (.bool true) ∧ Below u.heap.size u w') := fun u hu => chnext_r ea va A eb vb L 5 _ u hu.ia hu.ib (Nat.le_refl _) (decide_eq_true h3)
  have HHA : Hid (∀ u, P2 w u ea va A eb vb L → Calls Try.prog 10 #[.agg #[.int .i64 ea, va], .int .i64 node] u fun e w' => e = .returned (.bool true) ∧ Below u.heap.size u w') := fun u hu => chhas_r ea va A (by omega) node _ u hu.ia (Nat.le_refl _) (decide_eq_true h4)
  have HHB : Hid (∀ u, P2 w u ea va A eb vb L → Calls Try.prog 10 #[.agg #[.int .i64 eb, vb], .int .i64 node] u fun e w' => e = .returned (.bool true) ∧ Below u.heap.size u w') := fun u hu => chhas_r eb vb L (by omega) node _ u hu.ib (Nat.le_refl _) (decide_eq_true h5)
  have hNA := h3.1.2.2.2.2
  have hNL := h3.2.1.2.2.2.2
  have hla := may_le5 h3.1
  have hlb := may_le5 h3.2.1
  have hAok := Lib.hid hNA
  have hLok := Lib.hid hNL
  obtain rfl : eb = ea + 1 := h3.2.2.2.2.1
  have hw : wrap64 (ea + 1) = ea + 1 := by have h6 := h3.1.1; have h7 := h3.1.2.1; simp only at h6 h7; exact IntWalk.wrap64_in _ (by omega)
  have HF := Lib.hid h3.2.2.2.2.2
  have HAn := Lib.hid h4
  obtain ⟨m0, hm0⟩ : ∃ m0, m0 = L.idxOf node := ⟨_, rfl⟩
  have hg := mem_getD h5
  rw [← hm0] at hg
  have HG : Hid (L.getD m0 0 = node) := hg.2
  have hm0L := hg.1
  have T := Lib.hid (P2.start hA hL (ea := ea) (eb := ea + 1))
  clear hA hL h1 h2 h3 h4 h5 hNA hNL hm0 hg
  have HW := Lib.hid hw
  clear hw
  go_enter Try.func6, Try.ntmps6
  obtain ⟨⟨c0, c1⟩, d0, d1⟩ := T.out.cells
  go_wp2_with fail
  clear c0 c1 d0 d1
  refine (HFA.out _ T.out).mono ?_
  rintro e w2 ⟨rfl, B⟩
  have T' := Lib.hid (T.out.step B)
  clear B T HFA
  obtain ⟨⟨c0, c1⟩, d0, d1⟩ := T'.out.cells
  go_wp2_with fail
  clear c0 c1 d0 d1
  refine (HFB.out _ T'.out).mono ?_
  rintro e w3 ⟨rfl, B⟩
  have T'' := Lib.hid (T'.out.step B)
  clear B T' HFB
  obtain ⟨⟨c0, c1⟩, d0, d1⟩ := T''.out.cells
  go_wp2_with fail
  clear c0 c1 d0 d1
  refine (HN.out _ T''.out).mono ?_
  rintro e w4 ⟨rfl, B⟩
  have T''' := Lib.hid (T''.out.step B)
  clear B T'' HN
  obtain ⟨⟨c0, c1⟩, d0, d1⟩ := T'''.out.cells
  go_wp2_with fail
  clear c0 c1 d0 d1
  refine (HHA.out _ T'''.out).mono ?_
  rintro e w5 ⟨rfl, B⟩
  have T'''' := Lib.hid (T'''.out.step B)
  clear B T''' HHA
  obtain ⟨⟨c0, c1⟩, d0, d1⟩ := T''''.out.cells
  go_wp2_with fail
  clear c0 c1 d0 d1
  refine (HHB.out _ T''''.out).mono ?_
  rintro e w6 ⟨rfl, B⟩
  have T''''' := Lib.hid (T''''.out.step B)
  clear B T'''' HHB
  obtain ⟨⟨c0, c1⟩, d0, d1⟩ := T'''''.out.cells
  go_wp2_with fail
  clear c0 c1 d0 d1
  go_loopw [7, 8, 9] (fun s7 s8 s9 wr => ∃ (i : Nat) (x last : Int), s7 = .int .i64 x ∧ s8 = .int .i64 last ∧ s9 = .int .i64 i ∧ i ≤ m0 ∧ Hid (x = L.getD (m0 - i) 0) ∧ Hid ((i = 0 ∧ last = -2) ∨ (0 < i ∧ last = x)) ∧ Hid (P2 w wr ea va A (ea + 1) vb L)) (fun _ _ s9 _ => 6 - (intOf s9).toNat)
  case atStart => exact ⟨0, node, -2, rfl, rfl, rfl, Nat.zero_le _, HG.out.symm, .inl ⟨rfl, rfl⟩, T'''''.out⟩
  case round =>
    obtain ⟨i, x, last, rfl, rfl, rfl, hi, HX, HL, TR⟩ := hrel
    clear T'''''
    have i6 : (i : Int) < 6 := by omega
    by_cases hlt : i < m0
    · obtain ⟨x2, hx2⟩ : ∃ x2, x2 = L.getD (m0 - (i + 1)) 0 := ⟨_, rfl⟩
      have HX3 := Lib.hid hx2
      have hab : abvV L x = x2 := by
        rw [HX.out, abv_at hLok.out.2 (by omega), hx2, show ((m0 - i : Nat) : Int) - 1 = ((m0 - (i + 1) : Nat) : Int) by omega]
        exact chAt_in (by omega)
      have hx20 : 0 ≤ x2 := by rw [hx2]; exact (hLok.out.1 _ (chGet_mem (by omega))).1
      have hx0 : 0 ≤ x := by rw [HX.out]; exact (hLok.out.1 _ (chGet_mem (by omega))).1
      have hK := fol_keeps HF.out hAok.out.2 hm0L (by rw [HG.out]; exact HAn.out) (m := m0 - (i + 1)) (by omega)
      rw [show m0 - (i + 1) + 1 = m0 - i by omega, ← hx2, ← HX.out] at hK
      obtain ⟨hx2A, hzA, hqp⟩ := hK
      have HAV : Hid (∀ u, P2 w u ea va A (ea + 1) vb L → Calls Try.prog 9 #[.agg #[.int .i64 (ea + 1), vb], .int .i64 x] u fun e w' => e = .returned (.int .i64 x2) ∧ Below u.heap.size u w') := fun u hu => chabove_r (ea + 1) vb L (by omega) x _ u hu.ib (Nat.le_refl _) hab
      have HM := Lib.hid (And.intro hx2A (And.intro hzA hqp))
      clear hx2 hab hx2A hzA hqp
      obtain ⟨⟨c0, c1⟩, d0, d1⟩ := TR.out.cells
      rcases HL.out with ⟨hi0, hlast⟩ | ⟨hi0, hlast⟩
      · subst hi0
        subst hlast
        obtain rfl : x = node := by rw [HX.out]; exact HG.out
        clear HL HX
        go_wp2_with fail
        clear c0 c1 d0 d1
        refine (HAV.out _ TR.out).mono ?_
        rintro e wc ⟨rfl, B⟩
        have TP := Lib.hid (TR.out.step B)
        clear B TR HAV
        go_wp2_with fail
        obtain ⟨hx2A, hzA, hqp⟩ := HM.out
        clear HM
        obtain ⟨p, hp⟩ : ∃ p, p = A.idxOf x := ⟨_, rfl⟩
        obtain ⟨q, hq⟩ : ∃ q, q = A.idxOf x2 := ⟨_, rfl⟩
        have hz1 := mem_getD hzA
        have hx1 := mem_getD hx2A
        rw [← hp] at hz1 hqp
        rw [← hq] at hx1 hqp
        have hp4 : p ≤ 4 := by have := hla; omega
        have HZ : Hid (A.getD p 0 = x) := hz1.2
        have HX2 : Hid (A.getD q 0 = x2) := hx1.2
        have hpA := hz1.1
        have hqA := hx1.1
        clear hp hq hz1 hx1 hzA hx2A
        go_loopw [10, 11, 12] (fun s10 s11 s12 wq => ∃ (k : Nat) (y : Int), s10 = .int .i64 y ∧ s11 = .bool (decide (p ≤ q + k)) ∧ s12 = .int .i64 k ∧ k ≤ p + 1 ∧ Hid (y = chAt A ((p : Int) - k)) ∧ Hid (P2 w wq ea va A (ea + 1) vb L)) (fun _ _ s12 _ => 6 - (intOf s12).toNat)
        case atStart => exact ⟨0, x, rfl, by rw [decide_eq_false (by omega)], rfl, by omega, (by show _ = _; rw [show (p : Int) - ((0 : Nat) : Int) = (p : Int) by omega, chAt_in hpA]; exact HZ.out.symm), TP.out⟩
        case round =>
          obtain ⟨k, y, rfl, rfl, rfl, hkp, HY, TQ⟩ := hrel
          have k6 : (k : Int) < 6 := by omega
          by_cases hk : k ≤ p
          · obtain ⟨y2, hy2⟩ : ∃ y2, y2 = chAt A ((p : Int) - (k + 1 : Nat)) := ⟨_, rfl⟩
            have hyg : y = A.getD (p - k) 0 := by rw [HY.out, show (p : Int) - (k : Int) = ((p - k : Nat) : Int) by omega]; exact chAt_in (by omega)
            have hy0 : 0 ≤ y := by rw [hyg]; exact (hAok.out.1 _ (chGet_mem (by omega))).1
            have hab : abvV A y = y2 := by rw [hyg, abv_at hAok.out.2 (by omega), hy2]; congr 1; omega
            have HAV : Hid (∀ u, P2 w u ea va A (ea + 1) vb L → Calls Try.prog 9 #[.agg #[.int .i64 ea, va], .int .i64 y] u fun e w' => e = .returned (.int .i64 y2) ∧ Below u.heap.size u w') := fun u hu => chabove_r ea va A (by omega) y _ u hu.ia (Nat.le_refl _) hab
            have hit : Hid (y2 = x2 ↔ p = q + k + 1) := by
              show _ ↔ _
              constructor
              · intro e
                by_cases hk2 : k + 1 ≤ p
                · have h1 : y2 = A.getD (p - (k + 1)) 0 := by rw [hy2, show (p : Int) - ((k + 1 : Nat) : Int) = ((p - (k + 1) : Nat) : Int) by omega]; exact chAt_in (by omega)
                  have h2 := nodup_first hAok.out.2 (k := p - (k + 1)) (by omega)
                  have h3 := nodup_first hAok.out.2 (k := q) hqA
                  rw [← h1, e] at h2
                  rw [HX2.out] at h3
                  omega
                · rw [hy2, chAt_out (by omega)] at e
                  omega
              · intro e
                rw [hy2, show (p : Int) - ((k + 1 : Nat) : Int) = (q : Int) by omega, chAt_in hqA]
                exact HX2.out
            have HY2 := Lib.hid hy2
            clear hy2 hyg hab HY
            by_cases hf : p ≤ q + k
            · have hd2 : Hid (Value.bool true = .bool (decide (p ≤ q + (k + 1)))) := by show _ = _; rw [decide_eq_true (by omega)]
              rw [decide_eq_true hf]
              clear hit hf
              obtain ⟨⟨c0, c1⟩, d0, d1⟩ := TQ.out.cells
              go_wp2_with fail
              clear c0 c1 d0 d1
              refine (HAV.out _ TQ.out).mono ?_
              rintro e wb ⟨rfl, B⟩
              have TB := Lib.hid (TQ.out.step B)
              clear B TQ HAV
              go_wp2
              go_roundw
              case rel => exact ⟨k + 1, y2, rfl, hd2.out, by go_num, by omega, HY2.out, TB.out⟩
              case measure => simp [intOf]; omega
            · rw [decide_eq_false hf]
              by_cases hyx : y2 = x2
              · have hd2 : Hid (Value.bool true = .bool (decide (p ≤ q + (k + 1)))) := by show _ = _; rw [decide_eq_true (by have := hit.out.1 hyx; omega)]
                have hyb : (y2 == x2) = true := by simp [hyx]
                have HYX := Lib.hid hyx
                clear hit hf hyx
                obtain ⟨⟨c0, c1⟩, d0, d1⟩ := TQ.out.cells
                go_wp2_with fail
                clear c0 c1 d0 d1
                refine (HAV.out _ TQ.out).mono ?_
                rintro e wb ⟨rfl, B⟩
                have TB := Lib.hid (TQ.out.step B)
                clear B TQ HAV
                go_wp2
                go_roundw
                case rel => exact ⟨k + 1, y2, rfl, by first | exact hd2.out | (rw [hyb]; exact hd2.out), by go_num, by omega, HY2.out, TB.out⟩
                case measure => simp [intOf]; omega
              · have hd2 : Hid (Value.bool false = .bool (decide (p ≤ q + (k + 1)))) := by show _ = _; rw [decide_eq_false (by intro h; exact hyx (hit.out.2 (by omega)))]
                have hyb : (y2 == x2) = false := beq_eq_false_iff_ne.2 hyx
                clear hit hf hyx
                obtain ⟨⟨c0, c1⟩, d0, d1⟩ := TQ.out.cells
                go_wp2_with fail
                clear c0 c1 d0 d1
                refine (HAV.out _ TQ.out).mono ?_
                rintro e wb ⟨rfl, B⟩
                have TB := Lib.hid (TQ.out.step B)
                clear B TQ HAV
                go_wp2
                go_roundw
                case rel => exact ⟨k + 1, y2, rfl, by first | exact hd2.out | (rw [hyb]; exact hd2.out), by go_num, by omega, HY2.out, TB.out⟩
                case measure => simp [intOf]; omega
          · obtain rfl : k = p + 1 := by omega
            obtain rfl : y = -1 := by rw [HY.out]; exact chAt_out (by omega)
            rw [decide_eq_true (show p ≤ q + (p + 1) by omega)]
            clear HY hk hkp
            go_wp2
            go_roundw
            case rel => exact ⟨0 + 1, x2, x2, rfl, rfl, by go_num, by omega, HX3.out, (.inr ⟨by omega, rfl⟩), TQ.out⟩
            case measure => simp [intOf] <;> omega
      · subst hlast
        clear HL HX
        go_wp2_with fail
        clear c0 c1 d0 d1
        refine (HAV.out _ TR.out).mono ?_
        rintro e wc ⟨rfl, B⟩
        have TP := Lib.hid (TR.out.step B)
        clear B TR HAV
        go_wp2_with fail
        obtain ⟨hx2A, hzA, hqp⟩ := HM.out
        clear HM
        obtain ⟨p, hp⟩ : ∃ p, p = A.idxOf last := ⟨_, rfl⟩
        obtain ⟨q, hq⟩ : ∃ q, q = A.idxOf x2 := ⟨_, rfl⟩
        have hz1 := mem_getD hzA
        have hx1 := mem_getD hx2A
        rw [← hp] at hz1 hqp
        rw [← hq] at hx1 hqp
        have hp4 : p ≤ 4 := by have := hla; omega
        have HZ : Hid (A.getD p 0 = last) := hz1.2
        have HX2 : Hid (A.getD q 0 = x2) := hx1.2
        have hpA := hz1.1
        have hqA := hx1.1
        clear hp hq hz1 hx1 hzA hx2A
        go_loopw [10, 11, 12] (fun s10 s11 s12 wq => ∃ (k : Nat) (y : Int), s10 = .int .i64 y ∧ s11 = .bool (decide (p ≤ q + k)) ∧ s12 = .int .i64 k ∧ k ≤ p + 1 ∧ Hid (y = chAt A ((p : Int) - k)) ∧ Hid (P2 w wq ea va A (ea + 1) vb L)) (fun _ _ s12 _ => 6 - (intOf s12).toNat)
        case atStart => exact ⟨0, last, rfl, by rw [decide_eq_false (by omega)], rfl, by omega, (by show _ = _; rw [show (p : Int) - ((0 : Nat) : Int) = (p : Int) by omega, chAt_in hpA]; exact HZ.out.symm), TP.out⟩
        case round =>
          obtain ⟨k, y, rfl, rfl, rfl, hkp, HY, TQ⟩ := hrel
          have k6 : (k : Int) < 6 := by omega
          by_cases hk : k ≤ p
          · obtain ⟨y2, hy2⟩ : ∃ y2, y2 = chAt A ((p : Int) - (k + 1 : Nat)) := ⟨_, rfl⟩
            have hyg : y = A.getD (p - k) 0 := by rw [HY.out, show (p : Int) - (k : Int) = ((p - k : Nat) : Int) by omega]; exact chAt_in (by omega)
            have hy0 : 0 ≤ y := by rw [hyg]; exact (hAok.out.1 _ (chGet_mem (by omega))).1
            have hab : abvV A y = y2 := by rw [hyg, abv_at hAok.out.2 (by omega), hy2]; congr 1; omega
            have HAV : Hid (∀ u, P2 w u ea va A (ea + 1) vb L → Calls Try.prog 9 #[.agg #[.int .i64 ea, va], .int .i64 y] u fun e w' => e = .returned (.int .i64 y2) ∧ Below u.heap.size u w') := fun u hu => chabove_r ea va A (by omega) y _ u hu.ia (Nat.le_refl _) hab
            have hit : Hid (y2 = x2 ↔ p = q + k + 1) := by
              show _ ↔ _
              constructor
              · intro e
                by_cases hk2 : k + 1 ≤ p
                · have h1 : y2 = A.getD (p - (k + 1)) 0 := by rw [hy2, show (p : Int) - ((k + 1 : Nat) : Int) = ((p - (k + 1) : Nat) : Int) by omega]; exact chAt_in (by omega)
                  have h2 := nodup_first hAok.out.2 (k := p - (k + 1)) (by omega)
                  have h3 := nodup_first hAok.out.2 (k := q) hqA
                  rw [← h1, e] at h2
                  rw [HX2.out] at h3
                  omega
                · rw [hy2, chAt_out (by omega)] at e
                  omega
              · intro e
                rw [hy2, show (p : Int) - ((k + 1 : Nat) : Int) = (q : Int) by omega, chAt_in hqA]
                exact HX2.out
            have HY2 := Lib.hid hy2
            clear hy2 hyg hab HY
            by_cases hf : p ≤ q + k
            · have hd2 : Hid (Value.bool true = .bool (decide (p ≤ q + (k + 1)))) := by show _ = _; rw [decide_eq_true (by omega)]
              rw [decide_eq_true hf]
              clear hit hf
              obtain ⟨⟨c0, c1⟩, d0, d1⟩ := TQ.out.cells
              go_wp2_with fail
              clear c0 c1 d0 d1
              refine (HAV.out _ TQ.out).mono ?_
              rintro e wb ⟨rfl, B⟩
              have TB := Lib.hid (TQ.out.step B)
              clear B TQ HAV
              go_wp2
              go_roundw
              case rel => exact ⟨k + 1, y2, rfl, hd2.out, by go_num, by omega, HY2.out, TB.out⟩
              case measure => simp [intOf]; omega
            · rw [decide_eq_false hf]
              by_cases hyx : y2 = x2
              · have hd2 : Hid (Value.bool true = .bool (decide (p ≤ q + (k + 1)))) := by show _ = _; rw [decide_eq_true (by have := hit.out.1 hyx; omega)]
                have hyb : (y2 == x2) = true := by simp [hyx]
                have HYX := Lib.hid hyx
                clear hit hf hyx
                obtain ⟨⟨c0, c1⟩, d0, d1⟩ := TQ.out.cells
                go_wp2_with fail
                clear c0 c1 d0 d1
                refine (HAV.out _ TQ.out).mono ?_
                rintro e wb ⟨rfl, B⟩
                have TB := Lib.hid (TQ.out.step B)
                clear B TQ HAV
                go_wp2
                go_roundw
                case rel => exact ⟨k + 1, y2, rfl, by first | exact hd2.out | (rw [hyb]; exact hd2.out), by go_num, by omega, HY2.out, TB.out⟩
                case measure => simp [intOf]; omega
              · have hd2 : Hid (Value.bool false = .bool (decide (p ≤ q + (k + 1)))) := by show _ = _; rw [decide_eq_false (by intro h; exact hyx (hit.out.2 (by omega)))]
                have hyb : (y2 == x2) = false := beq_eq_false_iff_ne.2 hyx
                clear hit hf hyx
                obtain ⟨⟨c0, c1⟩, d0, d1⟩ := TQ.out.cells
                go_wp2_with fail
                clear c0 c1 d0 d1
                refine (HAV.out _ TQ.out).mono ?_
                rintro e wb ⟨rfl, B⟩
                have TB := Lib.hid (TQ.out.step B)
                clear B TQ HAV
                go_wp2
                go_roundw
                case rel => exact ⟨k + 1, y2, rfl, by first | exact hd2.out | (rw [hyb]; exact hd2.out), by go_num, by omega, HY2.out, TB.out⟩
                case measure => simp [intOf]; omega
          · obtain rfl : k = p + 1 := by omega
            obtain rfl : y = -1 := by rw [HY.out]; exact chAt_out (by omega)
            rw [decide_eq_true (show p ≤ q + (p + 1) by omega)]
            clear HY hk hkp
            go_wp2
            go_roundw
            case rel => exact ⟨i + 1, x2, x2, rfl, rfl, by go_num, by omega, HX3.out, (.inr ⟨by omega, rfl⟩), TQ.out⟩
            case measure => simp [intOf] <;> omega
    · obtain rfl : i = m0 := by omega
      have hab : abvV L x = -1 := by rw [HX.out, abv_at hLok.out.2 (by omega)]; exact chAt_out (by omega)
      have HAV : Hid (∀ u, P2 w u ea va A (ea + 1) vb L → Calls Try.prog 9 #[.agg #[.int .i64 (ea + 1), vb], .int .i64 x] u fun e w' => e = .returned (.int .i64 (-1)) ∧ Below u.heap.size u w') := fun u hu => chabove_r (ea + 1) vb L (by omega) x _ u hu.ib (Nat.le_refl _) hab
      clear hab hlt HX HL
      obtain ⟨⟨c0, c1⟩, d0, d1⟩ := TR.out.cells
      go_wp2_with fail
      clear c0 c1 d0 d1
      refine (HAV.out _ TR.out).mono ?_
      rintro e wc ⟨rfl, B⟩
      have TP := Lib.hid (TR.out.step B)
      clear B TR HAV
      go_wp2_with fail
      refine (HT.out _).mono ?_
      rintro e w9 ⟨rfl, B⟩
      have T9 := Lib.hid (TP.out.step B)
      have hw := HW.out
      obtain ⟨⟨c0, c1⟩, d0, d1⟩ := T9.out.cells
      clear B TP
      go_wp2
      go_returns
      exact ⟨by first | rfl | exact ret_bool (by simp [hw]), T9.out.bel⟩

theorem walk (ea : Int) (va : Value) (A : List Int) (eb : Int) (vb : Value) (L : List Int) (node : Int) (w : World) (hA : Ints w w.heap.size va A) (hL : Ints w w.heap.size vb L) (_ : (Lit.int .i64 node).wf = true) :
    Calls Try.prog 6 #[.agg #[.int .i64 ea, va], .agg #[.int .i64 eb, vb], .int .i64 node] w fun e w' => e = .returned (.bool true) ∧ Below w.heap.size w w' := by
  by_cases h1 : A.length ≤ 10
  · by_cases h2 : L.length ≤ 10
    · by_cases h3 : nextC ea A eb L 5
      · by_cases h4 : node ∈ A
        · by_cases h5 : node ∈ L
          · exact main ea va A eb vb L node w hA hL h1 h2 h3 h4 h5
          · exact lacks2 ea va A eb vb L node w hA hL h1 h2 h3 h4 h5
        · exact lacks ea va A eb vb L node w hA hL h1 h2 h3 h4
      · exact apart ea va A eb vb L node w hA hL h1 h2 h3
    · exact many2 ea va A eb vb L node w hA hL h1 h2
  · exact many ea va A eb vb L node w hA hL h1

set_option maxRecDepth 100000 in
theorem lifted (os : Os) (started : os.Started) (H : Type) (enc : TypeId × Value → H) :
    ReturnsInHanded {} Try.checked os 6 .any (Rows.chainKeepsSpec.pre6 enc Try.prog Try.f6 Rows.chainKeepsRow.domain false) (Rows.chainKeepsSpec.post enc Try.prog Try.f6 false true false false) := by
  refine returnsInHanded_of_change (C := Try.checked) own started (by kernel_rfl) Try.func6
    (ChangeSpec.witness6 (enc := enc) (C := Try.checked) false ⟨#[], #[.agg #[.int .i64 0, .slice none 0 0], .agg #[.int .i64 0, .slice none 0 0], .int .i64 0], []⟩ 8 (by kernel_rfl) (by kernel_rfl) (by kernel_rfl) (by kernel_rfl)) ?_
  intro W base args ds gs before hval0 hW hcnd _
  have hval : ∀ (j : Nat) t v, Try.f6.params[j]? = some t → args[j]? = some v → Value.okWide Try.prog W .any base t v := hval0
  have hW' := hW
  obtain ⟨p, q, hA0, hV, rfl, hfz, hnd⟩ := hW
  have hA : DataW.TrodAll enc Try.prog W 0 (fun _ => true) true Try.f6.params.toList args.toList ds p := hA0
  rw [Try.params6] at hA hval
  obtain ⟨v0, vs0, d0, ds0, p0, q0, hargs, rfl, rfl, h0, r0⟩ := trodAll_cons hA
  obtain ⟨v1, vs1, d1, ds1, p1, q1, rfl, rfl, rfl, h1, r1⟩ := trodAll_cons r0
  obtain ⟨v2, vs2, d2, ds2, p2, q2, rfl, rfl, rfl, h2, r2⟩ := trodAll_cons r1
  obtain ⟨rfl, rfl, rfl⟩ := trodAll_nil r2
  obtain rfl : args = #[v0, v1, v2] := by cases args; simp_all
  obtain ⟨rfl, rfl⟩ := trodVars_none hV
  have k0 := h0
  have lt0 : ∀ x ∈ p0, x.block < W.heap.size := by obtain ⟨m, hm⟩ := k0; exact DataW.trod_lt m _ _ _ hm
  obtain ⟨xa0, xb0, xc0, xd0, l0, rfl, w0⟩ := chain_open (hval 0 25 v0 rfl rfl) h0
  have k1 := h1
  have lt1 : ∀ x ∈ p1, x.block < W.heap.size := by obtain ⟨m, hm⟩ := k1; exact DataW.trod_lt m _ _ _ hm
  obtain ⟨xa1, xb1, xc1, xd1, l1, rfl, w1⟩ := chain_open (hval 1 25 v1 rfl rfl) h1
  obtain ⟨a2, rfl, rfl, rfl, w2⟩ := open_int Try.underlying3 (hval 2 3 v2 rfl rfl) h2
  clear hA0 hval0
  refine (walk xa0 (.slice xb0 xc0 xd0) l0 xa1 (.slice xb1 xc1 xd1) l1 a2 W w0 w1 w2).mono fun e W' ⟨he, bel⟩ => ?_
  subst he
  exact ⟨_, rfl, _, _, _, [], _, [], hW', trodAll_mk1 (shut_bool Try.underlying4 _), (trodAll_cons_mk (Below.trod laidOut (by kernel_rfl) (of_decide_eq_true (by kernel_rfl)) k0 bel lt0) (trodAll_cons_mk (Below.trod laidOut (by kernel_rfl) (of_decide_eq_true (by kernel_rfl)) k1 bel lt1) (trodAll_cons_mk (shut_int Try.underlying3 w2) trodAll_mk0))), rfl, bel.frame _, fun h => by cases h⟩

theorem over : Rows.chainKeepsRow.holds Try.pinned (OpenSpec.ofChange Rows.chainKeepsSpec) :=
  OpenClaim.holds_of_wide 6 Try.f6 rfl rfl rfl rfl rfl rfl rfl ⟨rfl, rfl, rfl, rfl, rfl⟩ rfl rfl rfl rfl rfl (by kernel_rfl) Try.func6 (by kernel_rfl)
    (of_decide_eq_true (by kernel_rfl)) (by unfold Func.isWrapper; first | (rw [if_pos (by decide +kernel)]; kernel_rfl) | (rw [if_neg (by decide +kernel)]; exact ⟨rfl, rfl⟩))
    (fun os started H enc _ => lifted os started H enc)
end Go.Proofs.Ytnliadnpoledmaa.ChainKeeps

namespace Go.Proofs.Ytnliadnpoledmaa
theorem chainKeeps_holds : Rows.ChainKeepsSaid := ChainKeeps.over
#print axioms chainKeeps_holds
end Go.Proofs.Ytnliadnpoledmaa
