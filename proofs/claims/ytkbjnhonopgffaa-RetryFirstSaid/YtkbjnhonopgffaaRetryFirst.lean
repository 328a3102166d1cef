/-
  PROVED: casebooklaw20.RetryFirst answers true and leaves its arguments as they were, for any ints and any bools: the row's own reading and nothing else is assumed.
-/
import Derived.Test.YtkbjnhonopgffaaReT
import Derived.Test.YtkbjnhonopgffaaChainE
import Derived.Test.YtkbjnhonopgffaaChartArgs
import Derived.Test.YtkbjnhonopgffaaDiskV
namespace Go.Proofs.Ytkbjnhonopgffaa.RetryFirst
open Go.ChangeShapes Go.WideShapes Go.ChangeAt Go.RowKit

/-- A row of bools. -/
def rowB (k : Nat) (f : Nat → Bool) : List Value := (List.range k).map fun j => .bool (f j)
theorem rowB_get {k : Nat} (f : Nat → Bool) {j : Nat} (h : j < k) : (rowB k f)[j]? = some (.bool (f j)) := by simp [rowB, h]
def upB (f : Nat → Bool) (j : Nat) : Nat → Bool := fun x => if x = j then true else f x
theorem rowB_set (k : Nat) (f : Nat → Bool) (j : Nat) : (rowB k f).set j (.bool true) = rowB k (upB f j) := by
  apply List.ext_getElem
  · simp [rowB]
  · intro i h1 h2
    by_cases e : j = i
    · subst e
      simp [rowB, upB]
    · have e' : ¬ i = j := fun h => e h.symm
      simp [rowB, upB, e, e']
/-- The chain's box at p, who is in it at p + 1, its row behind them. -/
structure RF (w : World) (p : Nat) (v : Value) (L : List Int) (f : Nat → Bool) (u : World) : Prop where
  box : u.heap[p]? = some (.cells #[.int .i64 3, v] 66 (0, 0))
  arr : u.heap[p + 1]? = some (.cells (rowB 5 f).toArray 71 (0, 0))
  row : u.ownsRow (p + 2) 3 1 v L.length (intCells L)
  bel : Below p w u
  low : p ≤ w.heap.size
section
variable {p : Nat} {w u u' : World} {v : Value} {L : List Int} {f : Nat → Bool}
theorem RF.lt (h : RF w p v L f u) : p + 2 ≤ u.heap.size := lt_of_block h.arr
theorem RF.on (h : RF w p v L f u) (hb : Below u.heap.size u u') : RF w p v L f u' :=
  ⟨(hb.block _ (lt_of_block h.box)).trans h.box, (hb.block _ (lt_of_block h.arr)).trans h.arr, ownsRow_on h.row fun b hx => hb.block b (h.row.lt b hx).2, h.bel.trans (hb.mono (Nat.le_trans h.low h.bel.size)), h.low⟩
theorem RF.cells (h : RF w p v L f u) : u.cell? ⟨p, 0, none⟩ = some (.int .i64 3) ∧ u.cell? ⟨p, 1, none⟩ = some v ∧ u.frozen? ⟨p, 1, none⟩ = false := by
  have hr := h.box
  exact ⟨by simp [World.cell?, hr], by simp [World.cell?, hr], by simp [World.frozen?, hr]⟩
theorem RF.cell (h : RF w p v L f u) {j : Nat} (hj : j < 5) : u.cell? ⟨p + 1, j, none⟩ = some (.bool (f j)) ∧ u.frozen? ⟨p + 1, j, none⟩ = false := by
  have hr := h.arr
  exact ⟨by rw [cell_of_row _ _ _ _ _ _ hr, List.getElem?_toArray, rowB_get f hj], by simp [World.frozen?, hr]⟩
theorem RF.set (h : RF w p v L f u) (j : Nat) : RF w p v L (upB f j) (u.setCell ⟨p + 1, j, none⟩ (.bool true)) := by
  refine ⟨(Below.heap_setCell _ _ _ _ (by show p ≠ p + 1; omega)).trans h.box, ?_, ownsRow_on h.row fun b hx => Below.heap_setCell _ _ _ _ (by show b ≠ p + 1; have := (h.row.lt b hx).1; omega), h.bel.trans ⟨rfl, rfl, rfl, by simp [World.setCell], fun x hx => Below.heap_setCell _ _ _ _ (by show x ≠ p + 1; omega)⟩, h.low⟩
  rw [heap_setCell_same _ _ _ _ _ _ h.arr, List.setIfInBounds_toArray, rowB_set]
/-- Behind an append to the row, and its store. -/
theorem RF.app {w1 : World} {v2 : Value} {x : Int} {o : Obj} (h : RF w p v L f u) (hown : w1.ownsRow (p + 2) 3 1 v2 (L ++ [x]).length (intCells (L ++ [x]))) (hg : (u.alloc o).grownBy w1 v.ownBlock) :
    RF w p v2 (L ++ [x]) f (w1.setCell ⟨p, 1, none⟩ v2) ∧ w1.cell? ⟨p, 1, none⟩ = some v ∧ w1.frozen? ⟨p, 1, none⟩ = false := by
  have hl := h.lt
  have ha : Below u.heap.size u (u.alloc o) := (Below.refl _ _).alloc (Nat.le_refl _) o
  have hlow : ∀ y, v.ownBlock = some y → p + 2 ≤ y := fun y hy => (h.row.lt y hy).1
  have hk : ∀ k, k < p + 2 → w1.heap[k]? = u.heap[k]? := fun k hk => (hg.block k (by simp; omega) (fun e => by have := hlow k e.symm; omega)).trans (ha.block k (by omega))
  have hb1 : w1.heap[p]? = some (.cells #[.int .i64 3, v] 66 (0, 0)) := (hk p (by omega)).trans h.box
  refine ⟨⟨?_, (Below.heap_setCell _ _ _ _ (by show p + 1 ≠ p; omega)).trans ((hk (p + 1) (by omega)).trans h.arr), ownsRow_on hown fun b hx => Below.heap_setCell _ _ _ _ (by show b ≠ p; have := (hown.lt b hx).1; omega), ?_, h.low⟩, by simp [World.cell?, hb1], by simp [World.frozen?, hb1]⟩
  · rw [heap_setCell_same _ _ _ _ _ _ hb1]; rfl
  · refine h.bel.trans ⟨hg.os.trans ha.os, hg.tape.trans ha.tape, hg.output.trans ha.output, ?_, fun x hx => (Below.heap_setCell _ _ _ _ (by show x ≠ p; omega)).trans (hk x (by omega))⟩
    have := hg.size
    simp [World.setCell] at this ⊢
    omega
theorem RF.ints (h : RF w p v L f u) : Ints u u.heap.size v L := ints_own h.row (Nat.le_refl _)
end
/-- Who is in it. -/
def inL (L : List Int) : Nat → Bool := fun j => decide ((j : Int) ∈ L)
theorem inL_next (L : List Int) (x : Nat) : upB (inL L) x = inL (L ++ [(x : Int)]) := by
  funext j
  unfold upB inL
  by_cases e : j = x
  · subst e
    simp
  · rw [if_neg e]
    refine decide_eq_decide.2 ⟨fun h => List.mem_append_left _ h, fun h => ?_⟩
    rcases List.mem_append.1 h with h | h
    · exact h
    · have := List.mem_singleton.1 h; omega
theorem info_intF : (Try.prog.info? 3).map (fun i => (i.zero, i.size, i.bytes)) = some (some (.int .i64 0), 1, 8) := by kernel_rfl

set_option maxRecDepth 100000 in
set_option maxHeartbeats 4000000 in
theorem main (a : Option Addr) (len c : Nat) (l : List Int) (sec wri : Bool) (w : World) (hlen : l.length = len) (hI : Ints w w.heap.size (.slice a len c) l) :
    Calls Try.prog 10 #[.slice a len c, .bool sec, .bool wri] w fun e w' => e = .returned (.bool true) ∧ Below w.heap.size w w' := by
  obtain ⟨i0, hi, hz0, hz1, hz2⟩ := info_parts info_intF
  have HT := Lib.hid (fun u => told20_any u)
  obtain ⟨ao', cap', he, hcap, hmax, _, hc⟩ := hI
  simp only [Value.slice.injEq] at he
  obtain ⟨rfl, -, rfl⟩ := he
  have HL := Lib.hid hlen
  have HC := Lib.hid hc
  clear hc hcap hmax hlen
  have H0 : RF w w.heap.size (.slice none 0 0) [] (fun _ => false) ((w.alloc (.cells #[.int .i64 3, .slice none 0 0] 66)).alloc (.cells #[.bool false, .bool false, .bool false, .bool false, .bool false] 71)) := by
    have h1 := heap_alloc_new w (.cells #[.int .i64 3, .slice none 0 0] 66)
    have h2 := heap_alloc_new (w.alloc (.cells #[.int .i64 3, .slice none 0 0] 66)) (.cells #[.bool false, .bool false, .bool false, .bool false, .bool false] 71)
    rw [World.size_alloc] at h2
    exact ⟨(((Below.refl _ _).alloc (Nat.le_refl _) _).block _ (by simp)).trans h1, h2, World.ownsRow_nil _ _ _ _, ((Below.refl _ w).alloc (Nat.le_refl _) _).alloc (by simp) _, Nat.le_refl _⟩
  obtain ⟨w1, hw1⟩ : ∃ w1, w1 = (w.alloc (.cells #[.int .i64 3, .slice none 0 0] 66)).alloc (.cells #[.bool false, .bool false, .bool false, .bool false, .bool false] 71) := ⟨_, rfl⟩
  rw [← hw1] at H0
  obtain ⟨p, hp⟩ : ∃ p, p = w.heap.size := ⟨_, rfl⟩
  have HP := Lib.hid hp
  have HW1 := Lib.hid hw1
  rw [← hp] at H0
  have HH := Lib.hid H0
  clear H0 hw1
  go_enter Try.func10, Try.ntmps10
  go_wp2_with fail
  rw [← HW1.out, ← hp]
  clear hp HW1
  go_loopw [9] (fun s9 wr => ∃ (i : Nat) (v : Value) (L : List Int), s9 = .int .i64 i ∧ i ≤ 20 ∧ L.length ≤ i ∧ Hid (∀ x ∈ L, 0 ≤ x ∧ x < 5) ∧ Hid (RF w p v L (inL L) wr)) (fun s9 _ => 20 - (intOf s9).toNat)
  case atStart => exact ⟨0, _, [], rfl, Nat.zero_le _, Nat.zero_le _, (fun x hx => by cases hx), by have h := HH.out; rwa [show (fun _ => false) = inL [] by funext x; simp [inL]] at h⟩
  case round =>
    clear HH
    obtain ⟨i, v, L, rfl, hi20, hLi, HLB, HS⟩ := hrel
    by_cases hlt : i < len ∧ i < 20
    · obtain ⟨hl1, hl2⟩ := hlt
      obtain ⟨xb, off, rfl, hxb, hc⟩ := HC.out (List.length_pos_iff.1 (by have := HL.out; omega))
      have hq := hc i (by have := HL.out; omega)
      clear hc
      generalize l.getD i 0 = x at hq
      have q0 := (HS.out.bel.cell (p := ⟨xb, off + i, none⟩) (by rw [HP.out]; exact hxb)).trans hq
      have j1 : (i : Int) < (len : Int) := by omega
      have j0 : (0 : Int) ≤ (i : Int) := by omega
      have j2 : (i : Int) < 20 := by omega
      obtain ⟨X, hX, et⟩ := left_of x 5 (by decide) (by decide)
      have EX : Hid (wrap64 ((IntKind.u64.wrap x).tmod 5) = (X : Int)) := et
      have x0 : (0 : Int) ≤ (X : Int) := by omega
      have x5 : (X : Int) < 5 := by omega
      obtain ⟨b0, b1⟩ := HS.out.cell hX
      clear hq hxb et
      cases hin : inL L X with
      | true =>
        rw [hin] at b0
        clear hin
        go_upto_region 7 with fail
        rw [EX.out]
        go_wp2
        go_roundw
        case rel => exact ⟨i + 1, v, L, by go_num, by omega, by omega, HLB.out, HS.out⟩
        case measure => simp [intOf]; omega
      | false =>
        rw [hin] at b0
        have S2 := HS.out.set X
        rw [inL_next] at S2
        have HS2 := Lib.hid HS.out
        clear hin
        go_upto_region 7 with fail
        rw [EX.out]
        go_upto_region 9 with fail
        obtain ⟨w2, hw2⟩ : ∃ w2, w2 = wr.setCell ⟨p + 1, X, none⟩ (.bool true) := ⟨_, rfl⟩
        rw [← hw2] at S2 ⊢
        have HS3 := Lib.hid S2
        obtain ⟨c0, c1, f1⟩ := S2.cells
        have hsz := S2.lt
        have HLB2 : Hid (∀ x ∈ L ++ [(X : Int)], 0 ≤ x ∧ x < 5) := by
          intro x hx
          rcases List.mem_append.1 hx with hx | hx
          · exact HLB.out x hx
          · rw [List.mem_singleton.1 hx]; omega
        clear hw2 S2 HS HS2 b0 b1 q0 HLB
        go_wp2_with (at_builtin; refine wpList_append_own_src rfl (.tmp 38) (.tmp 40) 23 23 rfl (p + 2) 3 i0 (.int .i64 0) 1 8 Try.underlying23 hi hz0 hz1 hz2 rfl _ _ _ rfl (HS3.out.row.alloc _) _ 1 (intCells [(X : Int)]) rfl (csrc1 w2 _) ?c3 ?c4 ?c5 ?_)
        case c3 => unfold maxLen; omega
        case c4 => omega
        case c5 => simp; omega
        intro v2 w4 O2 G2
        have O3 : w4.ownsRow (p + 2) 3 1 v2 (L ++ [(X : Int)]).length (intCells (L ++ [(X : Int)])) := by rw [List.length_append, ← cells_app]; exact O2
        obtain ⟨S5, d0, d1⟩ := HS3.out.app O3 G2
        obtain ⟨a2, c2, rfl⟩ := own_shape O2
        have HS5 := Lib.hid S5
        clear O2 O3 G2 S5 c0 c1 f1 HS3
        go_wp2_with fail
        go_roundw
        case rel => exact ⟨i + 1, _, L ++ [(X : Int)], by go_num, by omega, by rw [List.length_append]; simp; omega, HLB2.out, HS5.out⟩
        case measure => simp [intOf]; omega
    · obtain ⟨T, hT⟩ : ∃ T : Nat, T = if sec = true then 2 else 1 := ⟨_, rfl⟩
      obtain ⟨TT, hTT⟩ : ∃ TT : Int, TT = (T : Int) := ⟨_, rfl⟩
      have hT1 : 1 ≤ T := by rw [hT]; split <;> omega
      have hT2 : T ≤ 2 := by rw [hT]; split <;> omega
      have hT5 : T % 5 = T := by omega
      have HTS : Hid (TT = if sec = true then 2 else 1) := by show _ = _; rw [hTT, hT]; split <;> rfl
      obtain ⟨va, vc, rfl⟩ := own_shape HS.out.row
      obtain ⟨m, hm⟩ : ∃ m, m = L.length := ⟨_, rfl⟩
      rw [← hm] at HS
      have H7 : Hid (∀ u r, RF w p (.slice va m vc) L (inL L) u ∧ u.heap[r]? = some (.cells #[.int .i64 7] 3 (0, 0)) → Calls Try.prog 34 #[.agg #[.int .i64 0, .slice (some ⟨r, 0, none⟩) 1 1], .int .i64 5, .int .i64 TT, .bool wri] u fun e w' => e = .returned (.int .i64 TT) ∧ Below p w w') := by
        rintro u r ⟨hu, hr⟩
        have h := retarget_two 0 (some ⟨r, 0, none⟩) 1 1 [7] 5 T wri u rfl ⟨_, _, rfl, by decide, by decide, (fun e => by cases e), fun _ => ⟨r, 0, rfl, lt_of_block hr, fun j hj => by
          obtain rfl : j = 0 := by simp at hj; omega
          simp [World.cell?, hr]⟩⟩ (by decide) (by decide) hT1 hT2 (by decide)
        rw [hT5, ← hTT] at h
        exact h.mono fun _ _ ⟨he, hb⟩ => ⟨he, (hu.on hb).bel⟩
      have H7a : Hid (∀ u, RF w p (.slice va m vc) L (inL L) u → RF w p (.slice va m vc) L (inL L) (u.alloc (.cells #[.int .i64 7] 3)) ∧ (u.alloc (.cells #[.int .i64 7] 3)).heap[u.heap.size]? = some (.cells #[.int .i64 7] 3 (0, 0))) :=
        fun u hu => ⟨hu.on ((Below.refl _ _).alloc (Nat.le_refl _) _), heap_alloc_new u _⟩
      by_cases hL : L = []
      · subst hL
        obtain rfl : m = 0 := hm
        have HG : Hid (∀ u, RF w p (.slice va 0 vc) [] (inL []) u → Calls Try.prog 34 #[.agg #[.int .i64 3, .slice va 0 vc], .int .i64 5, .int .i64 TT, .bool wri] u fun e w' => e = .returned (.int .i64 TT) ∧ Hid (RF w p (.slice va 0 vc) [] (inL []) w')) := by
          intro u hu
          have h := retarget_two 3 va 0 vc [] 5 T wri u rfl hu.ints (by decide) (by decide) hT1 hT2 (by decide)
          rw [hT5, ← hTT] at h
          exact h.mono fun _ _ ⟨he, hb⟩ => ⟨he, hu.on hb⟩
        obtain ⟨c0, c1, _⟩ := HS.out.cells
        clear hT hTT hT1 hT2 hT5 H7 H7a HLB hLi
        by_cases hl1 : i < len
        all_goals
          first | (have j1 : (i : Int) < (len : Int) := by omega) | (have j1 : (len : Int) ≤ (i : Int) := by omega)
          first | (have j2 : (20 : Int) ≤ (i : Int) := by omega) | skip
          clear hlt hl1
          cases sec
          all_goals
            first | (obtain rfl : TT = 1 := HTS.out) | (obtain rfl : TT = 2 := HTS.out)
            go_wp2_with fail
            refine (HG.out _ HS.out).mono ?_
            rintro e w3 ⟨rfl, S3⟩
            obtain ⟨d0, d1, _⟩ := S3.out.cells
            go_wp2_with fail
            refine (HT.out _).mono ?_
            rintro e w4 ⟨rfl, B4⟩
            have S4 := Lib.hid (S3.out.on B4)
            clear B4
            go_wp2
            go_returns
            exact ⟨by first | rfl | trivial, by have h := S4.out.bel; rwa [HP.out] at h⟩
      · have hmp : 0 < m := by rw [hm]; exact List.length_pos_iff.2 hL
        have hmay : mayAskV L ((5 : Nat) : Int) := ⟨hL, HLB.out⟩
        obtain ⟨Z, hZ⟩ : ∃ Z : Nat, Z < 5 ∧ inL L Z = true ∧ (wri = true → (Z : Int) = L.getD 0 0) ∧ ((Z : Int) = if wri = true then L.getD 0 0 else L.getD (T % m) 0) := by
          have hget : ∀ k, k < m → ∃ Z : Nat, Z < 5 ∧ inL L Z = true ∧ (Z : Int) = L.getD k 0 := by
            intro k hk
            have hkL : k < L.length := by omega
            have hmem := List.getElem_mem hkL
            have hg : L.getD k 0 = L[k] := by simp [hkL]
            have hb := HLB.out _ hmem
            refine ⟨(L[k]).toNat, by omega, ?_, by rw [hg]; omega⟩
            refine decide_eq_true ?_
            rw [Int.toNat_of_nonneg hb.1]
            exact hmem
          cases wri
          · obtain ⟨Z, h1, h2, h3⟩ := hget (T % m) (Nat.mod_lt _ hmp)
            exact ⟨Z, h1, h2, (fun h => by cases h), h3⟩
          · obtain ⟨Z, h1, h2, h3⟩ := hget 0 hmp
            exact ⟨Z, h1, h2, fun _ => h3, h3⟩
        obtain ⟨hZ5, hZin, hZ0, hZe⟩ := hZ
        have HG : Hid (∀ u, RF w p (.slice va m vc) L (inL L) u → Calls Try.prog 34 #[.agg #[.int .i64 3, .slice va m vc], .int .i64 5, .int .i64 TT, .bool wri] u fun e w' => e = .returned (.int .i64 Z) ∧ Hid (RF w p (.slice va m vc) L (inL L) w')) := by
          intro u hu
          rw [hTT, hZe]
          cases wri
          · exact (retarget_read 3 va m vc L 5 T u hm.symm hu.ints (by decide) (by decide) hT1 hT2 hmay).mono fun _ _ ⟨he, hb⟩ => ⟨he, hu.on hb⟩
          · exact (retarget_head 3 va m vc L 5 T u hm.symm hu.ints (by decide) (by decide) hT1 hT2 hmay).mono fun _ _ ⟨he, hb⟩ => ⟨he, hu.on hb⟩
        have HF : Hid (∀ u, RF w p (.slice va m vc) L (inL L) u → wri = true → ∃ r, va = some ⟨r, 0, none⟩ ∧ u.cell? ⟨r, 0, none⟩ = some (.int .i64 (Z : Int))) := by
          intro u hu hw
          rcases hu.row.2 with ⟨h, h0⟩ | ⟨g, cap, cur, h, _⟩
          · omega
          · simp only [Value.slice.injEq] at h
            obtain ⟨rfl, _, rfl⟩ := h
            have hx : (intCells L)[0]? = some (.int .i64 (L.getD 0 0)) := by
              have : 0 < L.length := by omega
              simp [intCells, this]
            have := hu.row.cells (g := g) rfl 0 _ hx
            rw [Addr.add_lit] at this
            exact ⟨g, rfl, by rw [hZ0 hw]; exact this⟩
        have z0 : (0 : Int) ≤ (Z : Int) := by omega
        have z5 : (Z : Int) < 5 := by omega
        have hm1 : ((m : Int) == 0) = false := by simp; omega
        have hm0 : (0 : Int) < (m : Int) := by omega
        have HZ := Lib.hid hZin
        obtain ⟨c0, c1, _⟩ := HS.out.cells
        clear hT hTT hT1 hT2 hT5 HLB hLi hZe hZ0 hZin hL hmay hm
        by_cases hl1 : i < len
        all_goals
          first | (have j1 : (i : Int) < (len : Int) := by omega) | (have j1 : (len : Int) ≤ (i : Int) := by omega)
          first | (have j2 : (20 : Int) ≤ (i : Int) := by omega) | skip
          clear hlt hl1
          cases sec
          all_goals
            first | (obtain rfl : TT = 1 := HTS.out) | (obtain rfl : TT = 2 := HTS.out)
            cases wri
            · go_wp2_with fail
              refine (HG.out _ HS.out).mono ?_
              rintro e w3 ⟨rfl, S3⟩
              obtain ⟨d0, d1, _⟩ := S3.out.cells
              go_wp2_with fail
              refine (HT.out _).mono ?_
              rintro e w4 ⟨rfl, B4⟩
              have S4 := Lib.hid (S3.out.on B4)
              clear B4 d0 d1
              obtain ⟨e0, e1, _⟩ := S4.out.cells
              obtain ⟨e2, _⟩ := S4.out.cell hZ5
              rw [HZ.out] at e2
              have HA := Lib.hid (H7a.out _ S4.out)
              clear HG HS c0 c1 S3 HT HF
              go_wp2_with fail
              refine (H7.out _ _ HA.out).mono ?_
              rintro e w5 ⟨rfl, B5⟩
              have HB := Lib.hid B5
              clear B5
              go_wp2
              go_returns
              exact ⟨by first | rfl | trivial, by have h := HB.out; rwa [HP.out] at h⟩
            · go_wp2_with fail
              refine (HG.out _ HS.out).mono ?_
              rintro e w3 ⟨rfl, S3⟩
              obtain ⟨d0, d1, _⟩ := S3.out.cells
              go_wp2_with fail
              refine (HT.out _).mono ?_
              rintro e w4 ⟨rfl, B4⟩
              have S4 := Lib.hid (S3.out.on B4)
              clear B4 d0 d1
              obtain ⟨e0, e1, _⟩ := S4.out.cells
              obtain ⟨e2, _⟩ := S4.out.cell hZ5
              rw [HZ.out] at e2
              have HA := Lib.hid (H7a.out _ S4.out)
              obtain ⟨r, rfl, e3⟩ := HF.out _ S4.out (by trivial)
              clear HG HS c0 c1 S3 HT HF
              go_wp2_with fail
              refine (H7.out _ _ HA.out).mono ?_
              rintro e w5 ⟨rfl, B5⟩
              have HB := Lib.hid B5
              clear B5
              go_wp2
              go_returns
              exact ⟨by first | rfl | trivial, by have h := HB.out; rwa [HP.out] at h⟩

theorem walk (v : Value) (l : List Int) (sec wri : Bool) (w : World) (hI : Ints w w.heap.size v l) : Calls Try.prog 10 #[v, .bool sec, .bool wri] w fun e w' => e = .returned (.bool true) ∧ Below w.heap.size w w' := by
  obtain ⟨a, c, rfl, _⟩ := id hI
  exact main a _ c l sec wri w rfl hI

set_option maxRecDepth 100000 in
theorem lifted (os : Os) (started : os.Started) (H : Type) (enc : TypeId × Value → H) :
    ReturnsInHanded {} Try.checked os 10 .any (Rows.retryFirstSpec.pre6 enc Try.prog Try.f10 Rows.retryFirstRow.domain false) (Rows.retryFirstSpec.post enc Try.prog Try.f10 false true false false) := by
  refine returnsInHanded_of_change (C := Try.checked) own started (by kernel_rfl) Try.func10
    (ChangeSpec.witness6 (enc := enc) (C := Try.checked) false ⟨#[], #[.slice none 0 0, .bool false, .bool false], []⟩ 8 (by kernel_rfl) (by kernel_rfl) (by kernel_rfl) (by kernel_rfl)) ?_
  intro W base args ds gs before hval0 hW hcnd _
  have hval : ∀ (j : Nat) t v, Try.f10.params[j]? = some t → args[j]? = some v → Value.okWide Try.prog W .any base t v := hval0
  have hW' := hW
  obtain ⟨p, q, hA0, hV, rfl, hfz, hnd⟩ := hW
  have hA : DataW.TrodAll enc Try.prog W 0 (fun _ => true) true Try.f10.params.toList args.toList ds p := hA0
  rw [Try.params10] at hA hval
  obtain ⟨v0, vs0, d0, ds0, p0, q0, hargs, rfl, rfl, h0, r0⟩ := trodAll_cons hA
  obtain ⟨v1, vs1, d1, ds1, p1, q1, rfl, rfl, rfl, h1, r1⟩ := trodAll_cons r0
  obtain ⟨v2, vs2, d2, ds2, p2, q2, rfl, rfl, rfl, h2, r2⟩ := trodAll_cons r1
  obtain ⟨rfl, rfl, rfl⟩ := trodAll_nil r2
  obtain rfl : args = #[v0, v1, v2] := by cases args; simp_all
  obtain ⟨rfl, rfl⟩ := trodVars_none hV
  obtain ⟨a0, len0, cap0, rfl⟩ := okWide_slice Try.underlying23 (hval 0 23 v0 rfl rfl)
  have k0 := h0
  have lt0 : ∀ x ∈ p0, x.block < W.heap.size := by obtain ⟨m, hm⟩ := k0; exact DataW.trod_lt m _ _ _ hm
  obtain ⟨l0, w0⟩ := ints_open h0
  obtain ⟨a1, rfl, rfl, rfl⟩ := open_bool Try.underlying4 (hval 1 4 v1 rfl rfl) h1
  obtain ⟨a2, rfl, rfl, rfl⟩ := open_bool Try.underlying4 (hval 2 4 v2 rfl rfl) h2
  clear hA0 hval0
  refine (walk (.slice a0 len0 cap0) l0 a1 a2 W w0).mono fun e W' ⟨he, bel⟩ => ?_
  subst he
  exact ⟨_, rfl, _, _, _, [], _, [], hW', trodAll_mk1 (shut_bool Try.underlying4 _), (trodAll_cons_mk (Below.trod laidOut (by kernel_rfl) (of_decide_eq_true (by kernel_rfl)) k0 bel lt0) (trodAll_cons_mk (shut_bool Try.underlying4 _) (trodAll_cons_mk (shut_bool Try.underlying4 _) trodAll_mk0))), rfl, bel.frame _, fun h => by cases h⟩

theorem over : Rows.retryFirstRow.holds Try.pinned (OpenSpec.ofChange Rows.retryFirstSpec) :=
  OpenClaim.holds_of_wide 10 Try.f10 rfl rfl rfl rfl rfl rfl rfl ⟨rfl, rfl, rfl, rfl, rfl⟩ rfl rfl rfl rfl rfl (by kernel_rfl) Try.func10 (by kernel_rfl)
    (of_decide_eq_true (by kernel_rfl)) (by unfold Func.isWrapper; first | (rw [if_pos (by decide +kernel)]; kernel_rfl) | (rw [if_neg (by decide +kernel)]; exact ⟨rfl, rfl⟩))
    (fun os started H enc _ => lifted os started H enc)
end Go.Proofs.Ytkbjnhonopgffaa.RetryFirst

namespace Go.Proofs.Ytkbjnhonopgffaa
theorem retryFirst_holds : Rows.RetryFirstSaid := RetryFirst.over
#print axioms retryFirst_holds
end Go.Proofs.Ytkbjnhonopgffaa
