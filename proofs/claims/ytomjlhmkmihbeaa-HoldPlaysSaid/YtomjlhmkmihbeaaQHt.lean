/-
  THE REFERENCE's LEASE: has, Told. Of at most four questions. Written by gen/XQHt.gen.py.
-/
import Derived.Test.YtomjlhmkmihbeaaQHa
namespace Go.Proofs.Ytomjlhmkmihbeaa
open Go.RowKit

set_option maxHeartbeats 2000000 in
theorem qhas_r (v : Value) (L : List Int) (x : Int) (B : Nat) (w : World) (hIn : Ints w B v L) (hlim : L.length ≤ 1000000) {R : Bool} (hR : decide (x ∈ L) = R) :
    Calls Try.prog 42 #[v, .int .i64 x] w fun e w' => e = .returned (.bool R) ∧ w = w' := by
  have HR := Lib.hid hR
  obtain ⟨a0, c0, rfl⟩ : ∃ a c, v = .slice a L.length c := by obtain ⟨a, c, h, _⟩ := hIn; exact ⟨a, c, h⟩
  obtain ⟨n, hn⟩ : ∃ n, n = L.length := ⟨_, rfl⟩
  rw [← hn] at hIn hlim ⊢
  have HN := Lib.hid hn
  have HIN := Lib.hid hIn
  clear hR hn hIn
  go_enter Try.func42, Try.ntmps42
  go_wp2
  go_loopw [5] (fun s5 wr => ∃ k : Nat, k ≤ n ∧ s5 = .int .i64 k ∧ Hid (x ∉ L.take k) ∧ w = wr) (fun s5 _ => n - (intOf s5).toNat)
  case atStart => exact ⟨0, Nat.zero_le _, rfl, by show _ ∉ _; simp, rfl⟩
  case round =>
    obtain ⟨k, hk, rfl, HK, rfl⟩ := hrel
    by_cases hlt : k < n
    · obtain ⟨b, off, rfl, hb, hc⟩ := (ints_cell HIN.out).2 k hlt
      have k1 : (k : Int) < (n : Int) := by omega
      have k0 : (0 : Int) ≤ (k : Int) := by omega
      obtain ⟨y, hy⟩ : ∃ y, y = L.getD k 0 := ⟨_, rfl⟩
      rw [← hy] at hc
      have HY := Lib.hid hy
      clear hy
      by_cases hxy : y = x
      · have HF : Hid (true = R) := by
          show _ = _
          rw [← HR.out]
          obtain ⟨h1, h2⟩ := idx_first (L := L) (k := k) (x := x) (by have := HN.out; omega) (by rw [← HY.out, hxy]) HK.out
          exact (decide_eq_true h1).symm
        subst hxy
        go_wp2
        go_returns
        exact ⟨ret_bool HF.out, by first | rfl | trivial⟩
      · have HF : Hid (x ∉ L.take (k + 1)) := not_take (by have := HN.out; omega) HK.out (fun e => hxy (HY.out.trans e))
        have hb2 : (y == x) = false := beq_eq_false_iff_ne.2 hxy
        clear hxy
        go_wp2
        go_roundw
        case rel => exact ⟨k + 1, by omega, by go_num, HF.out, by first | rfl | trivial⟩
        case measure => simp [intOf]; omega
    · have hle : (n : Int) ≤ (k : Int) := by omega
      have HF : Hid (false = R) := by
        show _ = _
        rw [← HR.out]
        exact (decide_eq_false (not_first (by have := HN.out; omega) HK.out)).symm
      go_wp2
      go_returns
      exact ⟨ret_bool HF.out, by first | rfl | trivial⟩


theorem rqs_set : ∀ (L : List RQ) (i : Nat) (hi : i < L.length) (v : Value) (told : List Int), rqs (L.set i ⟨L[i].id, L[i].at_, L[i].ep, v, told⟩) = (rqs L).set (i * 4 + 3) v
  | [], i, hi, _, _ => by simp at hi
  | q :: l, 0, _, v, told => by
    show rqC ⟨q.id, q.at_, q.ep, v, told⟩ ++ rqs l = (rqC q ++ rqs l).set (0 * 4 + 3) v
    rfl
  | q :: l, i + 1, hi, v, told => by
    show rqC q ++ rqs (l.set i ⟨(l[i]'(by simpa using hi)).id, _, _, v, told⟩) = (rqC q ++ rqs l).set ((i + 1) * 4 + 3) v
    rw [List.set_append_right _ _ (by show 4 ≤ _; omega), show (i + 1) * 4 + 3 - (rqC q).length = i * 4 + 3 by show (i + 1) * 4 + 3 - 4 = _; omega]
    exact congrArg _ (rqs_set l i (by simpa using hi) v told)
theorem qrow_set {u : World} {n0 g off m cap : Nat} {L : List RQ} (hrow : QRow u n0 (.slice (some ⟨g, off, none⟩) m cap) L) (hm : L.length = m) {i : Nat} (hi : i < L.length) (v : Value) (told : List Int) :
    QRow (u.setCell ⟨g, off + i * 4 + 3, none⟩ v) n0 (.slice (some ⟨g, off, none⟩) m cap) (L.set i ⟨L[i].id, L[i].at_, L[i].ep, v, told⟩) := by
  rcases hrow with ⟨_, h⟩ | ⟨g', off', cap', cur, h1, h2, h3, h4, h5, h6⟩
  · cases h
  · simp only [Value.slice.injEq, Option.some.injEq, Addr.mk.injEq] at h1
    obtain ⟨⟨rfl, rfl, _⟩, rfl, rfl⟩ := h1
    refine .inr ⟨g, off, cap, _, by rw [List.length_set], h2, by rw [List.length_set]; exact h3, h4, heap_setCell_same _ _ _ _ _ _ h5, fun j x hx => ?_⟩
    rw [rqs_set L i hi v told] at hx
    rw [Array.getElem?_setIfInBounds]
    by_cases e : i * 4 + 3 = j
    · subst e
      have hj : i * 4 + 3 < (rqs L).length := by rw [rqs_len]; omega
      rw [List.getElem?_set_self hj] at hx
      have hb := h6 (i * 4 + 3) _ (List.getElem?_eq_getElem hj)
      have hlt : off + (i * 4 + 3) < cur.size := (Array.getElem?_eq_some_iff.1 hb).1
      rw [if_pos (by omega), if_pos (by omega)]
      exact hx
    · rw [List.getElem?_set_ne e] at hx
      rw [if_neg (by omega)]
      exact h6 j x hx

theorem srcOneQ {u : World} {p : Nat} {x : Int} (h : u.heap[p]? = some (.cells #[.int .i64 x] 3 (0, 0))) : Src Try.prog 1 41 (.slice (some ⟨p, 0, none⟩) 1 1) 1 (intCells [x]) u :=
  csrc (B := p + 1) (L := [x]) ⟨_, _, rfl, Nat.le_refl _, by decide, fun e => (by cases e), fun _ => ⟨_, _, rfl, Nat.lt_succ_self _, fun j hj => by
    obtain rfl : j = 0 := by simpa using hj
    rw [cell_of_row _ _ _ _ _ _ h]
    rfl⟩⟩
theorem tell_fin {P : World} {n0 rb N r g off m cap : Nat} {L : List RQ} {cs : Array Value} (h : RHd P n0 rb N r (.slice (some ⟨g, off, none⟩) m cap) L) (hm : L.length = m) (hcs : P.heap[g]? = some (.cells cs 77 (0, 0))) {i : Nat} (hi : i < L.length) {v : Value} {told : List Int} (hr : RowI P v told) :
    RHd (P.setCell ⟨g, off + i * 4 + 3, none⟩ v) n0 rb N r (.slice (some ⟨g, off, none⟩) m cap) (L.set i ⟨L[i].id, L[i].at_, L[i].ep, v, told⟩) := by
  have ho := Only.set g (off + i * 4 + 3) P v
  refine ⟨(ho.block rb h.lt (fun e => ?_)).trans h.blk, qrow_set h.row hm hi v told, fun q hq => ?_, h.low⟩
  · have hb := h.blk
    rw [e, hcs] at hb
    simp at hb
  · rcases List.mem_or_eq_of_mem_set hq with hq | rfl
    · exact (h.tl q hq).beside hcs (by decide) ho
    · exact hr.beside hcs (by decide) ho

/-- Is this the question that is told of? -/
def isQ (L : List RQ) (id : Int) (i : Nat) : Prop := ∃ (h : i < L.length), L[i].id = id ∧ ∀ q, L.getLast? = some q → L[i].ep = q.ep

set_option maxRecDepth 100000 in
set_option maxHeartbeats 1000000 in
theorem qhtold_out {w : World} {n0 rb N r : Nat} {sv : Value} {L : List RQ} (H : RHd w n0 rb N r sv L) (id k : Int) (h : ¬ (0 ≤ k ∧ k < (N : Int))) :
    Calls Try.prog 18 #[.pointer (some ⟨rb, 0, none⟩), .int .i64 id, .int .i64 k] w fun e w' => e = .returned (.bool false) ∧ Below w.heap.size w w' := by
  have c0 := H.cells.1.1
  clear H
  by_cases k0 : k < 0
  · clear h
    go_enter Try.func18, Try.ntmps18
    go_wp2
    go_returns
    exact ⟨rfl, Below.refl _ _⟩
  · have k1 : (N : Int) ≤ k := by omega
    clear h
    go_enter Try.func18, Try.ntmps18
    go_wp2
    go_returns
    exact ⟨rfl, Below.refl _ _⟩

/-- What a loop over the questions reads. -/
structure RdQ (w : World) (rb g off m cap : Nat) (L : List RQ) (u : World) : Prop where
  c2 : u.cell? ⟨rb, 2, none⟩ = some (.slice (some ⟨g, off, none⟩) m cap)
  el : ∀ i (hi : i < L.length), u.cell? ⟨g, off + i * 4, none⟩ = some (.int .i64 L[i].id) ∧ u.cell? ⟨g, off + i * 4 + 1, none⟩ = some (.int .i64 L[i].at_) ∧ u.cell? ⟨g, off + i * 4 + 2, none⟩ = some (.int .i64 L[i].ep) ∧ u.cell? ⟨g, off + i * 4 + 3, none⟩ = some L[i].v

set_option maxRecDepth 100000 in
set_option maxHeartbeats 8000000 in
theorem qhtold_r {w : World} {n0 rb N r : Nat} {sv : Value} {L : List RQ} (H : RHd w n0 rb N r sv L) (hl : L.length ≤ 4) (hn : n0 ≤ w.heap.size) (hT5 : ∀ q ∈ L, q.told.length ≤ 5) (id k : Int) (hk : 0 ≤ k ∧ k < (N : Int)) :
    Calls Try.prog 18 #[.pointer (some ⟨rb, 0, none⟩), .int .i64 id, .int .i64 k] w fun e w' =>
      (e = .returned (.bool false) ∧ (∀ i, ¬ isQ L id i) ∧ Below w.heap.size w w') ∨
      (e = .returned (.bool true) ∧ ∃ i, ∃ (hi : i < L.length), isQ L id i ∧ ((k ∈ L[i].told ∧ Below w.heap.size w w') ∨ (k ∉ L[i].told ∧ ∃ v, RHd w' n0 rb N r sv (L.set i ⟨L[i].id, L[i].at_, L[i].ep, v, L[i].told ++ [k]⟩) ∧ ∃ g cs, w.heap[g]? = some (.cells cs 77 (0, 0)) ∧ n0 ≤ g ∧ Only (· = g) w w'))) := by
  obtain ⟨k0, k1⟩ := hk
  have c0 := H.cells.1.1
  obtain ⟨a, cap, rfl⟩ := H.row.shape
  obtain ⟨m, hm⟩ : ∃ m, m = L.length := ⟨_, rfl⟩
  have HH := Lib.hid H
  have HM := Lib.hid hm
  have HNW := Lib.hid hn
  have HT5 := Lib.hid hT5
  rw [← hm] at hl
  have HSV : Hid (∀ u, Below w.heap.size w u → u.cell? ⟨rb, 2, none⟩ = some (.slice a m cap)) := fun u hu => by rw [hm]; exact (HH.out.on hu).cells.1.2.2
  clear H hm hn hT5
  go_enter Try.func18, Try.ntmps18
  go_wp2_with fail
  go_loopw [7] (fun s7 wr => ∃ i : Nat, i ≤ m ∧ s7 = .int .i64 i ∧ Hid (∀ j, j < i → ¬ isQ L id j) ∧ Hid (Below w.heap.size w wr)) (fun s7 _ => m - (intOf s7).toNat)
  case atStart => exact ⟨0, Nat.zero_le _, rfl, (fun j hj => absurd hj (by omega)), Below.refl _ _⟩
  case round =>
    obtain ⟨i, him, rfl, HNO, HB⟩ := hrel
    have cc2 := HSV.out _ HB.out
    by_cases hlt : i < m
    · have i1 : (i : Int) < (m : Int) := by omega
      have i0' : (0 : Int) ≤ (i : Int) := by omega
      have hiL : i < L.length := by rw [← HM.out]; exact hlt
      obtain ⟨kk, hkk⟩ : ∃ kk, m = kk + 1 := ⟨m - 1, by omega⟩
      have hkL : L.length = kk + 1 := by rw [← HM.out]; exact hkk
      have HLAST := Lib.hid (last_at hkL)
      obtain ⟨g, off, cp, hsv, hgn, hgl, hgc, hel⟩ := QRow.some_ HH.out.row (by omega)
      rw [← HM.out] at hsv
      simp only [Value.slice.injEq] at hsv
      obtain ⟨rfl, _, rfl⟩ := hsv
      have e0 := (hel i hiL).1.1
      have e2 := (hel i hiL).1.2.2.1
      have e3 := (hel i hiL).1.2.2.2
      have l2 := (hel kk (by omega)).1.2.2.1
      have HGC := Lib.hid hgc
      have HGN := Lib.hid hgn
      have HGL := Lib.hid hgl
      obtain ⟨x, hx⟩ : ∃ x, x = L[i].id := ⟨_, rfl⟩
      obtain ⟨y, hy⟩ : ∃ y, y = L[i].ep := ⟨_, rfl⟩
      obtain ⟨z, hz⟩ : ∃ z, z = (L[kk]'(by omega)).ep := ⟨_, rfl⟩
      obtain ⟨va, hva⟩ : ∃ va, va = L[i].v := ⟨_, rfl⟩
      rw [← hx] at e0
      rw [← hy] at e2
      rw [← hz] at l2
      rw [← hva] at e3
      have HIL := Lib.hid hiL
      have HVA : Hid (va = (L[i]'HIL.out).v) := hva
      have FX : Hid (∀ u, Below wr.heap.size wr u → u.cell? ⟨rb, 2, none⟩ = some (.slice (some ⟨g, off, none⟩) m cap) ∧ u.cell? ⟨g, off + i * 4, none⟩ = some (.int .i64 x) ∧ u.cell? ⟨g, off + i * 4 + 2, none⟩ = some (.int .i64 y) ∧ u.cell? ⟨g, off + kk * 4 + 2, none⟩ = some (.int .i64 z) ∧ u.cell? ⟨g, off + i * 4 + 3, none⟩ = some va) := fun u hu => by
        have hu' := HB.out.trans (hu.mono HB.out.size)
        exact ⟨HSV.out _ hu', (hu'.cell (p := ⟨g, off + i * 4, none⟩) HGL.out).trans e0, (hu'.cell (p := ⟨g, off + i * 4 + 2, none⟩) HGL.out).trans e2, (hu'.cell (p := ⟨g, off + kk * 4 + 2, none⟩) HGL.out).trans l2, (hu'.cell (p := ⟨g, off + i * 4 + 3, none⟩) HGL.out).trans e3⟩
      have kk0 : (0 : Int) ≤ (kk : Int) := by omega
      have kk2 : (kk : Int) < (m : Int) := by omega
      have s1 : IntKind.i64.wrap ((m : Int) - 1) = (kk : Int) := by rw [IntKind.wrap_i64]; omega
      have HIS : Hid (isQ L id i ↔ (x = id ∧ y = z)) := ⟨fun ⟨_, h1, h2⟩ => ⟨by rw [hx]; exact h1, by rw [hy, hz]; exact h2 _ HLAST.out⟩, fun ⟨h1, h2⟩ => ⟨hiL, by rw [← hx]; exact h1, fun q hq => by rw [HLAST.out] at hq; cases hq; rw [← hy, ← hz]; exact h2⟩⟩
      have HNX : Hid (¬ isQ L id i → ∀ j, j < i + 1 → ¬ isQ L id j) := fun hz j hj => by
        rcases (show j < i ∨ j = i by omega) with h | rfl
        · exact HNO.out j h
        · exact hz
      have HLT := Lib.hid hlt
      clear hx hy hz hva e0 e2 e3 l2 hel hgn hgl hgc hkk hkL hiL hlt HLAST cc2
      by_cases c1 : x = id
      · have d1 : (x == id) = true := by simpa using c1
        have C1 := Lib.hid c1
        clear c1
        by_cases c2 : y = z
        · have d2 : (y == z) = true := by simpa using c2
          have HQ := Lib.hid (HIS.out.2 ⟨C1.out, c2⟩)
          clear c2 HNX HNO HIS
          have cc2 := (FX.out _ (Below.refl _ _)).1
          go_wp2_with fail
          refine region_quiet (fun v => Below wr.heap.size wr v) (by kernel_rfl) (by kernel_rfl) (Below.refl wr.heap.size wr).drew ?_
          repeat (first
            | go_big_quiet_skip
            | (go_big_quiet_want
               (refine quiet_run (v := ?_) ?_ ?_; rotate_left; (intro u hu; obtain ⟨q2, q0, q1, q3, q4⟩ := FX.out u hu; go_simp <;> with_reducible rfl); simp only [Act.put, List.setIfInBounds_toArray, List.set_cons_zero, List.set_cons_succ]; go_big_quiet_on)))
          refine wpQuiet_nil ?_
          intro w4 h4
          clear d1 d2 s1 kk0 kk2 cc2
          have HB4 := Lib.hid (HB.out.trans (h4.mono HB.out.size))
          obtain ⟨f2, f0, f1, f3, f4⟩ := FX.out _ h4
          clear h4 f0 f1 f3
          have hrow4 : RowI w4 va (L[i]'HIL.out).told := by rw [HVA.out]; exact (HH.out.on HB4.out).tl _ (List.getElem_mem _)
          have ht5 := HT5.out _ (List.getElem_mem HIL.out)
          obtain ⟨tl, htl⟩ : ∃ tl, tl = (L[i]'HIL.out).told := ⟨_, rfl⟩
          rw [← htl] at hrow4 ht5
          have HTLD := Lib.hid htl
          obtain ⟨ta, tc, rfl⟩ := hrow4.shape
          obtain ⟨tn, htn⟩ : ∃ tn, tn = tl.length := ⟨_, rfl⟩
          rw [← htn] at hrow4 ht5 f4
          have HTN := Lib.hid htn
          have HROW4 := Lib.hid hrow4
          obtain ⟨D, hD⟩ : ∃ D, decide (k ∈ tl) = D := ⟨_, rfl⟩
          have HHAS := Lib.hid (qhas_r _ tl k w4.heap.size w4 hrow4.ints (by omega) hD)
          have HD := Lib.hid hD
          clear htl htn hrow4 hD
          go_wp2_with fail
          refine HHAS.out.mono ?_
          rintro e w5 ⟨rfl, rfl⟩
          have HF4 := Lib.hid f4
          clear HHAS f2 f4
          cases D with
          | true =>
            have HIN : Hid (k ∈ (L[i]'HIL.out).told) := by show _ ∈ _; rw [← HTLD.out]; exact of_decide_eq_true HD.out
            go_wp2
            go_returns
            exact .inr ⟨rfl, i, HIL.out, HQ.out, .inl ⟨HIN.out, HB4.out⟩⟩
          | false =>
            have HIN : Hid (k ∉ (L[i]'HIL.out).told) := by show _ ∉ _; rw [← HTLD.out]; exact of_decide_eq_false HD.out
            obtain ⟨i0, hi, hz0, hz1, hz2⟩ := info_parts info_intQ
            obtain ⟨cs, hcs⟩ := HGC.out
            have HCS := Lib.hid hcs
            have HCS4 : Hid (w4.heap[g]? = some (.cells cs 77 (0, 0))) := (HB4.out.block g HGL.out).trans hcs
            have HHW := Lib.hid (HH.out.on HB4.out)
            rw [← HM.out] at HHW
            clear HD FX hcs
            generalize w4 = W at HROW4 HB4 HF4 HCS4 HHW ⊢
            have HBK : Hid (∀ u, Below W.heap.size W u → u.heap[g]? = some (.cells cs 77 (0, 0))) := fun u hu => (hu.block g (lt_of_block HCS4.out)).trans HCS4.out
            have HS : Hid (∀ u, Below W.heap.size W u → (fun u => u.cell? ⟨rb, 2, none⟩ = some (.slice (some ⟨g, off, none⟩) m cap)) u) := fun u hu => (HHW.out.on hu).cells.1.2.2
            have HLD : Hid (∀ u, Below W.heap.size W u → u.cell? ⟨g, off + i * 4 + 3, none⟩ = some (.slice ta tn tc)) := fun u hu => (hu.cell (p := ⟨g, off + i * 4 + 3, none⟩) (lt_of_block HCS4.out)).trans HF4.out
            have HFZ : Hid (∀ u, Below W.heap.size W u → u.frozen? ⟨g, off + i * 4 + 3, none⟩ = false) := fun u hu => by have h := HBK.out u hu; simp [World.frozen?, h]
            have HSA : Hid (∀ u, Below W.heap.size W u → Src Try.prog 1 41 (.slice ta tn tc) tn (intCells tl) u) := fun u hu => by
              rw [HTN.out]
              have h := csrc (HROW4.out.on hu).ints
              rwa [HTN.out] at h
            clear HF4
            go_wp2_with fail
            go_cut [0] (fun s0 wc => s0 = .pointer (some ⟨rb, 0, none⟩) ∧ ∃ v, Hid (RHd wc n0 rb N r (.slice (some ⟨g, off, none⟩) m cap) (L.set i ⟨(L[i]'HIL.out).id, (L[i]'HIL.out).at_, (L[i]'HIL.out).ep, v, tl ++ [k]⟩)) ∧ Hid (Only (· = g) W wc))
            case first =>
              refine wp_region_held_drew (S := (fun u => u.cell? ⟨rb, 2, none⟩ = some (.slice (some ⟨g, off, none⟩) m cap))) (by kernel_rfl) (HS.out _ (Below.refl W.heap.size W).drew) (fun hHeld => ?_)
              first
                | (refine held_take 0 72 (v := ?_) rfl rfl (by kernel_rfl) (by kernel_rfl) (by kernel_rfl) (fun _ _ _ h => h) (by assumption) (by rfl) ?_ ?_; rotate_left; (focus (intro w hSw; (try dsimp only at hSw); go_simp <;> with_reducible rfl)))
                | refine held_pass 0 72 rfl rfl (by kernel_rfl) (by kernel_rfl) (by kernel_rfl) (fun _ _ _ h => h) (by assumption) (by rfl) ?_
              simp only [Act.put, List.setIfInBounds_toArray, List.set_cons_zero, List.set_cons_succ]
              first
                | (refine held_take 1 73 (v := ?_) rfl rfl (by kernel_rfl) (by kernel_rfl) (by kernel_rfl) (fun _ _ _ h => h) (by assumption) (by rfl) ?_ ?_; rotate_left; (focus (intro w hSw; (try dsimp only at hSw); go_simp <;> with_reducible rfl)))
                | refine held_pass 1 73 rfl rfl (by kernel_rfl) (by kernel_rfl) (by kernel_rfl) (fun _ _ _ h => h) (by assumption) (by rfl) ?_
              simp only [Act.put, List.setIfInBounds_toArray, List.set_cons_zero, List.set_cons_succ]
              first
                | (refine held_take 2 74 (v := ?_) rfl rfl (by kernel_rfl) (by kernel_rfl) (by kernel_rfl) (fun _ _ _ h => h) (by assumption) (by rfl) ?_ ?_; rotate_left; (focus (intro w hSw; (try dsimp only at hSw); go_simp <;> with_reducible rfl)))
                | refine held_pass 2 74 rfl rfl (by kernel_rfl) (by kernel_rfl) (by kernel_rfl) (fun _ _ _ h => h) (by assumption) (by rfl) ?_
              simp only [Act.put, List.setIfInBounds_toArray, List.set_cons_zero, List.set_cons_succ]
              first
                | (refine held_take 3 75 (v := ?_) rfl rfl (by kernel_rfl) (by kernel_rfl) (by kernel_rfl) (fun _ _ _ h => h) (by assumption) (by rfl) ?_ ?_; rotate_left; (focus (intro w hSw; (try dsimp only at hSw); go_simp <;> with_reducible rfl)))
                | refine held_pass 3 75 rfl rfl (by kernel_rfl) (by kernel_rfl) (by kernel_rfl) (fun _ _ _ h => h) (by assumption) (by rfl) ?_
              simp only [Act.put, List.setIfInBounds_toArray, List.set_cons_zero, List.set_cons_succ]
              first
                | (refine held_take 4 76 (v := ?_) rfl rfl (by kernel_rfl) (by kernel_rfl) (by kernel_rfl) (fun _ _ _ h => h) (by assumption) (by rfl) ?_ ?_; rotate_left; (focus (intro w hSw; (try dsimp only at hSw); go_simp <;> with_reducible rfl)))
                | refine held_pass 4 76 rfl rfl (by kernel_rfl) (by kernel_rfl) (by kernel_rfl) (fun _ _ _ h => h) (by assumption) (by rfl) ?_
              simp only [Act.put, List.setIfInBounds_toArray, List.set_cons_zero, List.set_cons_succ]
              first
                | (refine held_take 6 78 (v := ?_) rfl rfl (by kernel_rfl) (by kernel_rfl) (by kernel_rfl) (fun _ _ _ h => h) (by assumption) (by rfl) ?_ ?_; rotate_left; (focus (intro w hSw; (try dsimp only at hSw); go_simp <;> with_reducible rfl)))
                | refine held_pass 6 78 rfl rfl (by kernel_rfl) (by kernel_rfl) (by kernel_rfl) (fun _ _ _ h => h) (by assumption) (by rfl) ?_
              simp only [Act.put, List.setIfInBounds_toArray, List.set_cons_zero, List.set_cons_succ]
              first
                | (refine held_take 7 79 (v := ?_) rfl rfl (by kernel_rfl) (by kernel_rfl) (by kernel_rfl) (fun _ _ _ h => h) (by assumption) (by rfl) ?_ ?_; rotate_left; (focus (intro w hSw; (try dsimp only at hSw); go_simp <;> with_reducible rfl)))
                | refine held_pass 7 79 rfl rfl (by kernel_rfl) (by kernel_rfl) (by kernel_rfl) (fun _ _ _ h => h) (by assumption) (by rfl) ?_
              simp only [Act.put, List.setIfInBounds_toArray, List.set_cons_zero, List.set_cons_succ]
              first
                | (refine held_take 8 80 (v := ?_) rfl rfl (by kernel_rfl) (by kernel_rfl) (by kernel_rfl) (fun _ _ _ h => h) (by assumption) (by rfl) ?_ ?_; rotate_left; (focus (intro w hSw; (try dsimp only at hSw); go_simp <;> with_reducible rfl)))
                | refine held_pass 8 80 rfl rfl (by kernel_rfl) (by kernel_rfl) (by kernel_rfl) (fun _ _ _ h => h) (by assumption) (by rfl) ?_
              simp only [Act.put, List.setIfInBounds_toArray, List.set_cons_zero, List.set_cons_succ]
              first
                | (refine held_take 9 81 (v := ?_) rfl rfl (by kernel_rfl) (by kernel_rfl) (by kernel_rfl) (fun _ _ _ h => h) (by assumption) (by rfl) ?_ ?_; rotate_left; (focus (intro w hSw; (try dsimp only at hSw); go_simp <;> with_reducible rfl)))
                | refine held_pass 9 81 rfl rfl (by kernel_rfl) (by kernel_rfl) (by kernel_rfl) (fun _ _ _ h => h) (by assumption) (by rfl) ?_
              simp only [Act.put, List.setIfInBounds_toArray, List.set_cons_zero, List.set_cons_succ]
              first
                | (refine held_take 10 82 (v := ?_) rfl rfl (by kernel_rfl) (by kernel_rfl) (by kernel_rfl) (fun _ _ _ h => h) (by assumption) (by rfl) ?_ ?_; rotate_left; (focus (intro w hSw; (try dsimp only at hSw); go_simp <;> with_reducible rfl)))
                | refine held_pass 10 82 rfl rfl (by kernel_rfl) (by kernel_rfl) (by kernel_rfl) (fun _ _ _ h => h) (by assumption) (by rfl) ?_
              simp only [Act.put, List.setIfInBounds_toArray, List.set_cons_zero, List.set_cons_succ]
              first
                | (refine held_take 11 83 (v := ?_) rfl rfl (by kernel_rfl) (by kernel_rfl) (by kernel_rfl) (fun _ _ _ h => h) (by assumption) (by rfl) ?_ ?_; rotate_left; (focus (intro w hSw; (try dsimp only at hSw); go_simp <;> with_reducible rfl)))
                | refine held_pass 11 83 rfl rfl (by kernel_rfl) (by kernel_rfl) (by kernel_rfl) (fun _ _ _ h => h) (by assumption) (by rfl) ?_
              simp only [Act.put, List.setIfInBounds_toArray, List.set_cons_zero, List.set_cons_succ]
              first
                | (refine held_take 12 84 (v := ?_) rfl rfl (by kernel_rfl) (by kernel_rfl) (by kernel_rfl) (fun _ _ _ h => h) (by assumption) (by rfl) ?_ ?_; rotate_left; (focus (intro w hSw; (try dsimp only at hSw); go_simp <;> with_reducible rfl)))
                | refine held_pass 12 84 rfl rfl (by kernel_rfl) (by kernel_rfl) (by kernel_rfl) (fun _ _ _ h => h) (by assumption) (by rfl) ?_
              simp only [Act.put, List.setIfInBounds_toArray, List.set_cons_zero, List.set_cons_succ]
              first
                | (refine held_take 15 87 (v := ?_) rfl rfl (by kernel_rfl) (by kernel_rfl) (by kernel_rfl) (fun _ _ _ h => h) (by assumption) (by rfl) ?_ ?_; rotate_left; (focus (intro w hSw; (try dsimp only at hSw); go_simp <;> with_reducible rfl)))
                | refine held_pass 15 87 rfl rfl (by kernel_rfl) (by kernel_rfl) (by kernel_rfl) (fun _ _ _ h => h) (by assumption) (by rfl) ?_
              simp only [Act.put, List.setIfInBounds_toArray, List.set_cons_zero, List.set_cons_succ]
              obtain ⟨u0, hN⟩ : ∃ u, u = W.drew := ⟨_, rfl⟩
              rw [← hN] at hHeld ⊢
              have Bu0 : Hid (Below W.heap.size W u0) := by rw [hN]; exact (Below.refl W.heap.size W).drew
              clear hN
              refine wpAnyH_ready (rs := [5, 13, 16]) (by kernel_rfl) (by simp) (AllReadyH.cons rfl (fun K hK => ?_) (AllReadyH.cons rfl (fun K hK => ?_) (AllReadyH.cons rfl (fun K hK => ?_) AllReadyH.nil)))
              · try simp only [Go.wp_at_succ, Go.wp_at_zero]
                go_simp
                refine hK.out _ _ (HS.out _ (Bu0.out.alloc Bu0.out.size _)) (fun hHeld => ?_)
                clear hK K
                try simp only [Act.put, List.setIfInBounds_toArray, List.set_cons_zero, List.set_cons_succ]
                obtain ⟨u1, hN⟩ : ∃ u, u = u0.alloc (.cells #[] 3) := ⟨_, rfl⟩
                rw [← hN] at hHeld ⊢
                have Bu1 : Hid (Below W.heap.size W u1) := by rw [hN]; exact Bu0.out.alloc Bu0.out.size _
                have Eu1 : Hid (u1.heap[u0.heap.size]? = some (.cells #[] 3 (0, 0))) := by rw [hN]; exact heap_alloc_new u0 _
                clear hN
                refine wpAnyH_ready (rs := [13, 16]) (by kernel_rfl) (by simp) (AllReadyH.cons rfl (fun K hK => ?_) (AllReadyH.cons rfl (fun K hK => ?_) AllReadyH.nil))
                · try simp only [Go.wp_at_succ, Go.wp_at_zero]
                  have hl := HLD.out _ Bu1.out
                  go_simp
                  refine hK.out _ _ (HS.out _ Bu1.out) (fun hHeld => ?_)
                  clear hK K hl
                  try simp only [Act.put, List.setIfInBounds_toArray, List.set_cons_zero, List.set_cons_succ]
                  refine wpAnyH_ready (rs := [14, 16]) (by kernel_rfl) (by simp) (AllReadyH.cons rfl (fun K hK => ?_) (AllReadyH.cons rfl (fun K hK => ?_) AllReadyH.nil))
                  · have HRu : Hid (u1.ownsRow W.heap.size 3 1 (.slice (some ⟨u0.heap.size, 0, none⟩) 0 0) 0 []) := ⟨rfl, .inr ⟨u0.heap.size, 0, #[], rfl, Bu0.out.size, Eu1.out, Nat.le_refl _, Nat.zero_le _, rfl, rfl⟩⟩
                    refine stepApp rfl (.tmp 77) (.tmp 85) 41 41 rfl W.heap.size 3 i0 (.int .i64 0) 1 8 Try.underlying41 hi hz0 hz1 hz2 rfl (.slice (some ⟨u0.heap.size, 0, none⟩) 0 0) _ _ rfl HRu.out _ tn (intCells tl) rfl (HSA.out _ Bu1.out) ?c3 ?c4 ?c5 ?_
                    case c3 => unfold maxLen; omega
                    case c4 => omega
                    case c5 => exact Bu1.out.size
                    intro vu2 u2 O G
                    have Bu2 : Hid (Below W.heap.size W u2) := Bu1.out.grown G Bu1.out.size (fun y hy => (HRu.out.lt y hy).1)
                    rw [Nat.zero_add, List.nil_append] at O
                    obtain ⟨au2, cu2, rfl⟩ := own_shape O
                    have Ru2 := Lib.hid O
                    clear O G
                    refine hK.out _ _ (HS.out _ Bu2.out) (fun hHeld => ?_)
                    clear hK K
                    try simp only [Act.put]
                    try simp only [List.setIfInBounds_toArray]
                    refine wpAnyH_ready (rs := [16]) (by kernel_rfl) (by simp) (AllReadyH.cons rfl (fun K hK => ?_) AllReadyH.nil)
                    try simp only [Go.wp_at_succ, Go.wp_at_zero]
                    go_simp
                    refine hK.out _ _ (HS.out _ (Bu2.out.alloc Bu2.out.size _)) (fun hHeld => ?_)
                    clear hK K
                    try simp only [Act.put, List.setIfInBounds_toArray, List.set_cons_zero, List.set_cons_succ]
                    obtain ⟨u3, hN⟩ : ∃ u, u = u2.alloc (.cells #[.int .i64 k] 3) := ⟨_, rfl⟩
                    rw [← hN] at hHeld ⊢
                    have Bu3 : Hid (Below W.heap.size W u3) := by rw [hN]; exact Bu2.out.alloc Bu2.out.size _
                    have Xu3 : Hid (u3.heap[u2.heap.size]? = some (.cells #[.int .i64 k] 3 (0, 0))) := by rw [hN]; exact heap_alloc_new u2 _
                    have Ru3 := Lib.hid (Ru2.out.alloc (.cells #[.int .i64 k] 3))
                    rw [← hN] at Ru3
                    clear hN
                    refine wpAnyH_ready (rs := [17]) (by kernel_rfl) (by simp) (AllReadyH.cons rfl (fun K hK => ?_) AllReadyH.nil)
                    refine stepApp rfl (.tmp 86) (.tmp 88) 41 41 rfl W.heap.size 3 i0 (.int .i64 0) 1 8 Try.underlying41 hi hz0 hz1 hz2 rfl (.slice au2 tn cu2) _ _ rfl Ru3.out _ 1 (intCells [k]) rfl (srcOneQ Xu3.out) ?c3 ?c4 ?c5 ?_
                    case c3 => unfold maxLen; omega
                    case c4 => omega
                    case c5 => exact Bu3.out.size
                    intro vu4 u4 O G
                    have Bu4 : Hid (Below W.heap.size W u4) := Bu3.out.grown G Bu3.out.size (fun y hy => (Ru3.out.lt y hy).1)
                    obtain ⟨au4, cu4, rfl⟩ := ownsRow_succ O
                    have Ru4 := Lib.hid O
                    clear O G
                    refine hK.out _ _ (HS.out _ Bu4.out) (fun hHeld => ?_)
                    clear hK K
                    try simp only [Act.put]
                    try simp only [List.setIfInBounds_toArray]
                    first
                      | (refine held_take 18 90 (v := ?_) rfl rfl (by kernel_rfl) (by kernel_rfl) (by kernel_rfl) (fun _ _ _ h => h) (by assumption) (by rfl) ?_ ?_; rotate_left; (focus (intro w hSw; (try dsimp only at hSw); go_simp <;> with_reducible rfl)))
                      | refine held_pass 18 90 rfl rfl (by kernel_rfl) (by kernel_rfl) (by kernel_rfl) (fun _ _ _ h => h) (by assumption) (by rfl) ?_
                    try simp only [Act.put]
                    try simp only [List.setIfInBounds_toArray]
                    first
                      | (refine held_take 19 91 (v := ?_) rfl rfl (by kernel_rfl) (by kernel_rfl) (by kernel_rfl) (fun _ _ _ h => h) (by assumption) (by rfl) ?_ ?_; rotate_left; (focus (intro w hSw; (try dsimp only at hSw); go_simp <;> with_reducible rfl)))
                      | refine held_pass 19 91 rfl rfl (by kernel_rfl) (by kernel_rfl) (by kernel_rfl) (fun _ _ _ h => h) (by assumption) (by rfl) ?_
                    try simp only [Act.put]
                    try simp only [List.setIfInBounds_toArray]
                    have hcell := HLD.out _ Bu4.out
                    have hfz := HFZ.out _ Bu4.out
                    refine wpAnyH_ready (rs := [20]) (by kernel_rfl) (by simp) (AllReadyH.cons rfl (fun K hK => ?_) AllReadyH.nil)
                    try simp only [Go.wp_at_succ, Go.wp_at_zero]
                    go_simp
                    have K0 : Hid (RowI u4 (.slice (some ⟨au4, 0, none⟩) (tn + 1) cu4) (tl ++ [k])) := RowI.own (by rw [← cells_app]; exact Ru4.out)
                    have K1 := Lib.hid (tell_fin (HHW.out.on Bu4.out) HM.out.symm (HBK.out _ Bu4.out) HIL.out K0.out)
                    have K3 := Lib.hid ((Only.of (S := fun k => k = g) Bu4.out).trans (Only.set g (off + i * 4 + 3) u4 (.slice (some ⟨au4, 0, none⟩) (tn + 1) cu4)))
                    clear hcell hfz
                    refine hK.out _ _ K1.out.cells.1.2.2 (fun hHeld => ?_)
                    clear hK K
                    try simp only [Act.put]
                    refine wpAnyH_done (by kernel_rfl) ?_ _
                    go_wp2
                    go_meet
                    case rel => exact ⟨rfl, _, K1.out, K3.out⟩
                  · try simp only [Go.wp_at_succ, Go.wp_at_zero]
                    go_simp
                    refine hK.out _ _ (HS.out _ (Bu1.out.alloc Bu1.out.size _)) (fun hHeld => ?_)
                    clear hK K
                    try simp only [Act.put, List.setIfInBounds_toArray, List.set_cons_zero, List.set_cons_succ]
                    obtain ⟨u2, hN⟩ : ∃ u, u = u1.alloc (.cells #[.int .i64 k] 3) := ⟨_, rfl⟩
                    rw [← hN] at hHeld ⊢
                    have Bu2 : Hid (Below W.heap.size W u2) := by rw [hN]; exact Bu1.out.alloc Bu1.out.size _
                    have Eu2 : Hid (u2.heap[u0.heap.size]? = some (.cells #[] 3 (0, 0))) := by rw [hN]; exact alloc_keepQ _ Eu1.out
                    have Xu2 : Hid (u2.heap[u1.heap.size]? = some (.cells #[.int .i64 k] 3 (0, 0))) := by rw [hN]; exact heap_alloc_new u1 _
                    clear hN
                    refine wpAnyH_ready (rs := [14]) (by kernel_rfl) (by simp) (AllReadyH.cons rfl (fun K hK => ?_) AllReadyH.nil)
                    have HRu : Hid (u2.ownsRow W.heap.size 3 1 (.slice (some ⟨u0.heap.size, 0, none⟩) 0 0) 0 []) := ⟨rfl, .inr ⟨u0.heap.size, 0, #[], rfl, Bu0.out.size, Eu2.out, Nat.le_refl _, Nat.zero_le _, rfl, rfl⟩⟩
                    refine stepApp rfl (.tmp 77) (.tmp 85) 41 41 rfl W.heap.size 3 i0 (.int .i64 0) 1 8 Try.underlying41 hi hz0 hz1 hz2 rfl (.slice (some ⟨u0.heap.size, 0, none⟩) 0 0) _ _ rfl HRu.out _ tn (intCells tl) rfl (HSA.out _ Bu2.out) ?c3 ?c4 ?c5 ?_
                    case c3 => unfold maxLen; omega
                    case c4 => omega
                    case c5 => exact Bu2.out.size
                    intro vu3 u3 O G
                    have Bu3 : Hid (Below W.heap.size W u3) := Bu2.out.grown G Bu2.out.size (fun y hy => (HRu.out.lt y hy).1)
                    rw [Nat.zero_add, List.nil_append] at O
                    have Xu3 : Hid (u3.heap[u1.heap.size]? = some (.cells #[.int .i64 k] 3 (0, 0))) := (G.block _ (Array.getElem?_eq_some_iff.1 Xu2.out).1 (fun e => by have h := Xu2.out.symm.trans (show u2.heap[u1.heap.size]? = some (.cells #[] 3 (0, 0)) from by rw [show u1.heap.size = u0.heap.size by simpa [Value.ownBlock] using e]; exact Eu2.out); simp at h)).trans Xu2.out
                    obtain ⟨au3, cu3, rfl⟩ := own_shape O
                    have Ru3 := Lib.hid O
                    clear O G
                    refine hK.out _ _ (HS.out _ Bu3.out) (fun hHeld => ?_)
                    clear hK K
                    try simp only [Act.put]
                    try simp only [List.setIfInBounds_toArray]
                    refine wpAnyH_ready (rs := [17]) (by kernel_rfl) (by simp) (AllReadyH.cons rfl (fun K hK => ?_) AllReadyH.nil)
                    refine stepApp rfl (.tmp 86) (.tmp 88) 41 41 rfl W.heap.size 3 i0 (.int .i64 0) 1 8 Try.underlying41 hi hz0 hz1 hz2 rfl (.slice au3 tn cu3) _ _ rfl Ru3.out _ 1 (intCells [k]) rfl (srcOneQ Xu3.out) ?c3 ?c4 ?c5 ?_
                    case c3 => unfold maxLen; omega
                    case c4 => omega
                    case c5 => exact Bu3.out.size
                    intro vu4 u4 O G
                    have Bu4 : Hid (Below W.heap.size W u4) := Bu3.out.grown G Bu3.out.size (fun y hy => (Ru3.out.lt y hy).1)
                    obtain ⟨au4, cu4, rfl⟩ := ownsRow_succ O
                    have Ru4 := Lib.hid O
                    clear O G
                    refine hK.out _ _ (HS.out _ Bu4.out) (fun hHeld => ?_)
                    clear hK K
                    try simp only [Act.put]
                    try simp only [List.setIfInBounds_toArray]
                    first
                      | (refine held_take 18 90 (v := ?_) rfl rfl (by kernel_rfl) (by kernel_rfl) (by kernel_rfl) (fun _ _ _ h => h) (by assumption) (by rfl) ?_ ?_; rotate_left; (focus (intro w hSw; (try dsimp only at hSw); go_simp <;> with_reducible rfl)))
                      | refine held_pass 18 90 rfl rfl (by kernel_rfl) (by kernel_rfl) (by kernel_rfl) (fun _ _ _ h => h) (by assumption) (by rfl) ?_
                    try simp only [Act.put]
                    try simp only [List.setIfInBounds_toArray]
                    first
                      | (refine held_take 19 91 (v := ?_) rfl rfl (by kernel_rfl) (by kernel_rfl) (by kernel_rfl) (fun _ _ _ h => h) (by assumption) (by rfl) ?_ ?_; rotate_left; (focus (intro w hSw; (try dsimp only at hSw); go_simp <;> with_reducible rfl)))
                      | refine held_pass 19 91 rfl rfl (by kernel_rfl) (by kernel_rfl) (by kernel_rfl) (fun _ _ _ h => h) (by assumption) (by rfl) ?_
                    try simp only [Act.put]
                    try simp only [List.setIfInBounds_toArray]
                    have hcell := HLD.out _ Bu4.out
                    have hfz := HFZ.out _ Bu4.out
                    refine wpAnyH_ready (rs := [20]) (by kernel_rfl) (by simp) (AllReadyH.cons rfl (fun K hK => ?_) AllReadyH.nil)
                    try simp only [Go.wp_at_succ, Go.wp_at_zero]
                    go_simp
                    have K0 : Hid (RowI u4 (.slice (some ⟨au4, 0, none⟩) (tn + 1) cu4) (tl ++ [k])) := RowI.own (by rw [← cells_app]; exact Ru4.out)
                    have K1 := Lib.hid (tell_fin (HHW.out.on Bu4.out) HM.out.symm (HBK.out _ Bu4.out) HIL.out K0.out)
                    have K3 := Lib.hid ((Only.of (S := fun k => k = g) Bu4.out).trans (Only.set g (off + i * 4 + 3) u4 (.slice (some ⟨au4, 0, none⟩) (tn + 1) cu4)))
                    clear hcell hfz
                    refine hK.out _ _ K1.out.cells.1.2.2 (fun hHeld => ?_)
                    clear hK K
                    try simp only [Act.put]
                    refine wpAnyH_done (by kernel_rfl) ?_ _
                    go_wp2
                    go_meet
                    case rel => exact ⟨rfl, _, K1.out, K3.out⟩
                · try simp only [Go.wp_at_succ, Go.wp_at_zero]
                  go_simp
                  refine hK.out _ _ (HS.out _ (Bu1.out.alloc Bu1.out.size _)) (fun hHeld => ?_)
                  clear hK K
                  try simp only [Act.put, List.setIfInBounds_toArray, List.set_cons_zero, List.set_cons_succ]
                  obtain ⟨u2, hN⟩ : ∃ u, u = u1.alloc (.cells #[.int .i64 k] 3) := ⟨_, rfl⟩
                  rw [← hN] at hHeld ⊢
                  have Bu2 : Hid (Below W.heap.size W u2) := by rw [hN]; exact Bu1.out.alloc Bu1.out.size _
                  have Eu2 : Hid (u2.heap[u0.heap.size]? = some (.cells #[] 3 (0, 0))) := by rw [hN]; exact alloc_keepQ _ Eu1.out
                  have Xu2 : Hid (u2.heap[u1.heap.size]? = some (.cells #[.int .i64 k] 3 (0, 0))) := by rw [hN]; exact heap_alloc_new u1 _
                  clear hN
                  refine wpAnyH_ready (rs := [13]) (by kernel_rfl) (by simp) (AllReadyH.cons rfl (fun K hK => ?_) AllReadyH.nil)
                  try simp only [Go.wp_at_succ, Go.wp_at_zero]
                  have hl := HLD.out _ Bu2.out
                  go_simp
                  refine hK.out _ _ (HS.out _ Bu2.out) (fun hHeld => ?_)
                  clear hK K hl
                  try simp only [Act.put, List.setIfInBounds_toArray, List.set_cons_zero, List.set_cons_succ]
                  refine wpAnyH_ready (rs := [14]) (by kernel_rfl) (by simp) (AllReadyH.cons rfl (fun K hK => ?_) AllReadyH.nil)
                  have HRu : Hid (u2.ownsRow W.heap.size 3 1 (.slice (some ⟨u0.heap.size, 0, none⟩) 0 0) 0 []) := ⟨rfl, .inr ⟨u0.heap.size, 0, #[], rfl, Bu0.out.size, Eu2.out, Nat.le_refl _, Nat.zero_le _, rfl, rfl⟩⟩
                  refine stepApp rfl (.tmp 77) (.tmp 85) 41 41 rfl W.heap.size 3 i0 (.int .i64 0) 1 8 Try.underlying41 hi hz0 hz1 hz2 rfl (.slice (some ⟨u0.heap.size, 0, none⟩) 0 0) _ _ rfl HRu.out _ tn (intCells tl) rfl (HSA.out _ Bu2.out) ?c3 ?c4 ?c5 ?_
                  case c3 => unfold maxLen; omega
                  case c4 => omega
                  case c5 => exact Bu2.out.size
                  intro vu3 u3 O G
                  have Bu3 : Hid (Below W.heap.size W u3) := Bu2.out.grown G Bu2.out.size (fun y hy => (HRu.out.lt y hy).1)
                  rw [Nat.zero_add, List.nil_append] at O
                  have Xu3 : Hid (u3.heap[u1.heap.size]? = some (.cells #[.int .i64 k] 3 (0, 0))) := (G.block _ (Array.getElem?_eq_some_iff.1 Xu2.out).1 (fun e => by have h := Xu2.out.symm.trans (show u2.heap[u1.heap.size]? = some (.cells #[] 3 (0, 0)) from by rw [show u1.heap.size = u0.heap.size by simpa [Value.ownBlock] using e]; exact Eu2.out); simp at h)).trans Xu2.out
                  obtain ⟨au3, cu3, rfl⟩ := own_shape O
                  have Ru3 := Lib.hid O
                  clear O G
                  refine hK.out _ _ (HS.out _ Bu3.out) (fun hHeld => ?_)
                  clear hK K
                  try simp only [Act.put]
                  try simp only [List.setIfInBounds_toArray]
                  refine wpAnyH_ready (rs := [17]) (by kernel_rfl) (by simp) (AllReadyH.cons rfl (fun K hK => ?_) AllReadyH.nil)
                  refine stepApp rfl (.tmp 86) (.tmp 88) 41 41 rfl W.heap.size 3 i0 (.int .i64 0) 1 8 Try.underlying41 hi hz0 hz1 hz2 rfl (.slice au3 tn cu3) _ _ rfl Ru3.out _ 1 (intCells [k]) rfl (srcOneQ Xu3.out) ?c3 ?c4 ?c5 ?_
                  case c3 => unfold maxLen; omega
                  case c4 => omega
                  case c5 => exact Bu3.out.size
                  intro vu4 u4 O G
                  have Bu4 : Hid (Below W.heap.size W u4) := Bu3.out.grown G Bu3.out.size (fun y hy => (Ru3.out.lt y hy).1)
                  obtain ⟨au4, cu4, rfl⟩ := ownsRow_succ O
                  have Ru4 := Lib.hid O
                  clear O G
                  refine hK.out _ _ (HS.out _ Bu4.out) (fun hHeld => ?_)
                  clear hK K
                  try simp only [Act.put]
                  try simp only [List.setIfInBounds_toArray]
                  first
                    | (refine held_take 18 90 (v := ?_) rfl rfl (by kernel_rfl) (by kernel_rfl) (by kernel_rfl) (fun _ _ _ h => h) (by assumption) (by rfl) ?_ ?_; rotate_left; (focus (intro w hSw; (try dsimp only at hSw); go_simp <;> with_reducible rfl)))
                    | refine held_pass 18 90 rfl rfl (by kernel_rfl) (by kernel_rfl) (by kernel_rfl) (fun _ _ _ h => h) (by assumption) (by rfl) ?_
                  try simp only [Act.put]
                  try simp only [List.setIfInBounds_toArray]
                  first
                    | (refine held_take 19 91 (v := ?_) rfl rfl (by kernel_rfl) (by kernel_rfl) (by kernel_rfl) (fun _ _ _ h => h) (by assumption) (by rfl) ?_ ?_; rotate_left; (focus (intro w hSw; (try dsimp only at hSw); go_simp <;> with_reducible rfl)))
                    | refine held_pass 19 91 rfl rfl (by kernel_rfl) (by kernel_rfl) (by kernel_rfl) (fun _ _ _ h => h) (by assumption) (by rfl) ?_
                  try simp only [Act.put]
                  try simp only [List.setIfInBounds_toArray]
                  have hcell := HLD.out _ Bu4.out
                  have hfz := HFZ.out _ Bu4.out
                  refine wpAnyH_ready (rs := [20]) (by kernel_rfl) (by simp) (AllReadyH.cons rfl (fun K hK => ?_) AllReadyH.nil)
                  try simp only [Go.wp_at_succ, Go.wp_at_zero]
                  go_simp
                  have K0 : Hid (RowI u4 (.slice (some ⟨au4, 0, none⟩) (tn + 1) cu4) (tl ++ [k])) := RowI.own (by rw [← cells_app]; exact Ru4.out)
                  have K1 := Lib.hid (tell_fin (HHW.out.on Bu4.out) HM.out.symm (HBK.out _ Bu4.out) HIL.out K0.out)
                  have K3 := Lib.hid ((Only.of (S := fun k => k = g) Bu4.out).trans (Only.set g (off + i * 4 + 3) u4 (.slice (some ⟨au4, 0, none⟩) (tn + 1) cu4)))
                  clear hcell hfz
                  refine hK.out _ _ K1.out.cells.1.2.2 (fun hHeld => ?_)
                  clear hK K
                  try simp only [Act.put]
                  refine wpAnyH_done (by kernel_rfl) ?_ _
                  go_wp2
                  go_meet
                  case rel => exact ⟨rfl, _, K1.out, K3.out⟩
              · try simp only [Go.wp_at_succ, Go.wp_at_zero]
                have hl := HLD.out _ Bu0.out
                go_simp
                refine hK.out _ _ (HS.out _ Bu0.out) (fun hHeld => ?_)
                clear hK K hl
                try simp only [Act.put, List.setIfInBounds_toArray, List.set_cons_zero, List.set_cons_succ]
                refine wpAnyH_ready (rs := [5, 16]) (by kernel_rfl) (by simp) (AllReadyH.cons rfl (fun K hK => ?_) (AllReadyH.cons rfl (fun K hK => ?_) AllReadyH.nil))
                · try simp only [Go.wp_at_succ, Go.wp_at_zero]
                  go_simp
                  refine hK.out _ _ (HS.out _ (Bu0.out.alloc Bu0.out.size _)) (fun hHeld => ?_)
                  clear hK K
                  try simp only [Act.put, List.setIfInBounds_toArray, List.set_cons_zero, List.set_cons_succ]
                  obtain ⟨u1, hN⟩ : ∃ u, u = u0.alloc (.cells #[] 3) := ⟨_, rfl⟩
                  rw [← hN] at hHeld ⊢
                  have Bu1 : Hid (Below W.heap.size W u1) := by rw [hN]; exact Bu0.out.alloc Bu0.out.size _
                  have Eu1 : Hid (u1.heap[u0.heap.size]? = some (.cells #[] 3 (0, 0))) := by rw [hN]; exact heap_alloc_new u0 _
                  clear hN
                  refine wpAnyH_ready (rs := [14, 16]) (by kernel_rfl) (by simp) (AllReadyH.cons rfl (fun K hK => ?_) (AllReadyH.cons rfl (fun K hK => ?_) AllReadyH.nil))
                  · have HRu : Hid (u1.ownsRow W.heap.size 3 1 (.slice (some ⟨u0.heap.size, 0, none⟩) 0 0) 0 []) := ⟨rfl, .inr ⟨u0.heap.size, 0, #[], rfl, Bu0.out.size, Eu1.out, Nat.le_refl _, Nat.zero_le _, rfl, rfl⟩⟩
                    refine stepApp rfl (.tmp 77) (.tmp 85) 41 41 rfl W.heap.size 3 i0 (.int .i64 0) 1 8 Try.underlying41 hi hz0 hz1 hz2 rfl (.slice (some ⟨u0.heap.size, 0, none⟩) 0 0) _ _ rfl HRu.out _ tn (intCells tl) rfl (HSA.out _ Bu1.out) ?c3 ?c4 ?c5 ?_
                    case c3 => unfold maxLen; omega
                    case c4 => omega
                    case c5 => exact Bu1.out.size
                    intro vu2 u2 O G
                    have Bu2 : Hid (Below W.heap.size W u2) := Bu1.out.grown G Bu1.out.size (fun y hy => (HRu.out.lt y hy).1)
                    rw [Nat.zero_add, List.nil_append] at O
                    obtain ⟨au2, cu2, rfl⟩ := own_shape O
                    have Ru2 := Lib.hid O
                    clear O G
                    refine hK.out _ _ (HS.out _ Bu2.out) (fun hHeld => ?_)
                    clear hK K
                    try simp only [Act.put]
                    try simp only [List.setIfInBounds_toArray]
                    refine wpAnyH_ready (rs := [16]) (by kernel_rfl) (by simp) (AllReadyH.cons rfl (fun K hK => ?_) AllReadyH.nil)
                    try simp only [Go.wp_at_succ, Go.wp_at_zero]
                    go_simp
                    refine hK.out _ _ (HS.out _ (Bu2.out.alloc Bu2.out.size _)) (fun hHeld => ?_)
                    clear hK K
                    try simp only [Act.put, List.setIfInBounds_toArray, List.set_cons_zero, List.set_cons_succ]
                    obtain ⟨u3, hN⟩ : ∃ u, u = u2.alloc (.cells #[.int .i64 k] 3) := ⟨_, rfl⟩
                    rw [← hN] at hHeld ⊢
                    have Bu3 : Hid (Below W.heap.size W u3) := by rw [hN]; exact Bu2.out.alloc Bu2.out.size _
                    have Xu3 : Hid (u3.heap[u2.heap.size]? = some (.cells #[.int .i64 k] 3 (0, 0))) := by rw [hN]; exact heap_alloc_new u2 _
                    have Ru3 := Lib.hid (Ru2.out.alloc (.cells #[.int .i64 k] 3))
                    rw [← hN] at Ru3
                    clear hN
                    refine wpAnyH_ready (rs := [17]) (by kernel_rfl) (by simp) (AllReadyH.cons rfl (fun K hK => ?_) AllReadyH.nil)
                    refine stepApp rfl (.tmp 86) (.tmp 88) 41 41 rfl W.heap.size 3 i0 (.int .i64 0) 1 8 Try.underlying41 hi hz0 hz1 hz2 rfl (.slice au2 tn cu2) _ _ rfl Ru3.out _ 1 (intCells [k]) rfl (srcOneQ Xu3.out) ?c3 ?c4 ?c5 ?_
                    case c3 => unfold maxLen; omega
                    case c4 => omega
                    case c5 => exact Bu3.out.size
                    intro vu4 u4 O G
                    have Bu4 : Hid (Below W.heap.size W u4) := Bu3.out.grown G Bu3.out.size (fun y hy => (Ru3.out.lt y hy).1)
                    obtain ⟨au4, cu4, rfl⟩ := ownsRow_succ O
                    have Ru4 := Lib.hid O
                    clear O G
                    refine hK.out _ _ (HS.out _ Bu4.out) (fun hHeld => ?_)
                    clear hK K
                    try simp only [Act.put]
                    try simp only [List.setIfInBounds_toArray]
                    first
                      | (refine held_take 18 90 (v := ?_) rfl rfl (by kernel_rfl) (by kernel_rfl) (by kernel_rfl) (fun _ _ _ h => h) (by assumption) (by rfl) ?_ ?_; rotate_left; (focus (intro w hSw; (try dsimp only at hSw); go_simp <;> with_reducible rfl)))
                      | refine held_pass 18 90 rfl rfl (by kernel_rfl) (by kernel_rfl) (by kernel_rfl) (fun _ _ _ h => h) (by assumption) (by rfl) ?_
                    try simp only [Act.put]
                    try simp only [List.setIfInBounds_toArray]
                    first
                      | (refine held_take 19 91 (v := ?_) rfl rfl (by kernel_rfl) (by kernel_rfl) (by kernel_rfl) (fun _ _ _ h => h) (by assumption) (by rfl) ?_ ?_; rotate_left; (focus (intro w hSw; (try dsimp only at hSw); go_simp <;> with_reducible rfl)))
                      | refine held_pass 19 91 rfl rfl (by kernel_rfl) (by kernel_rfl) (by kernel_rfl) (fun _ _ _ h => h) (by assumption) (by rfl) ?_
                    try simp only [Act.put]
                    try simp only [List.setIfInBounds_toArray]
                    have hcell := HLD.out _ Bu4.out
                    have hfz := HFZ.out _ Bu4.out
                    refine wpAnyH_ready (rs := [20]) (by kernel_rfl) (by simp) (AllReadyH.cons rfl (fun K hK => ?_) AllReadyH.nil)
                    try simp only [Go.wp_at_succ, Go.wp_at_zero]
                    go_simp
                    have K0 : Hid (RowI u4 (.slice (some ⟨au4, 0, none⟩) (tn + 1) cu4) (tl ++ [k])) := RowI.own (by rw [← cells_app]; exact Ru4.out)
                    have K1 := Lib.hid (tell_fin (HHW.out.on Bu4.out) HM.out.symm (HBK.out _ Bu4.out) HIL.out K0.out)
                    have K3 := Lib.hid ((Only.of (S := fun k => k = g) Bu4.out).trans (Only.set g (off + i * 4 + 3) u4 (.slice (some ⟨au4, 0, none⟩) (tn + 1) cu4)))
                    clear hcell hfz
                    refine hK.out _ _ K1.out.cells.1.2.2 (fun hHeld => ?_)
                    clear hK K
                    try simp only [Act.put]
                    refine wpAnyH_done (by kernel_rfl) ?_ _
                    go_wp2
                    go_meet
                    case rel => exact ⟨rfl, _, K1.out, K3.out⟩
                  · try simp only [Go.wp_at_succ, Go.wp_at_zero]
                    go_simp
                    refine hK.out _ _ (HS.out _ (Bu1.out.alloc Bu1.out.size _)) (fun hHeld => ?_)
                    clear hK K
                    try simp only [Act.put, List.setIfInBounds_toArray, List.set_cons_zero, List.set_cons_succ]
                    obtain ⟨u2, hN⟩ : ∃ u, u = u1.alloc (.cells #[.int .i64 k] 3) := ⟨_, rfl⟩
                    rw [← hN] at hHeld ⊢
                    have Bu2 : Hid (Below W.heap.size W u2) := by rw [hN]; exact Bu1.out.alloc Bu1.out.size _
                    have Eu2 : Hid (u2.heap[u0.heap.size]? = some (.cells #[] 3 (0, 0))) := by rw [hN]; exact alloc_keepQ _ Eu1.out
                    have Xu2 : Hid (u2.heap[u1.heap.size]? = some (.cells #[.int .i64 k] 3 (0, 0))) := by rw [hN]; exact heap_alloc_new u1 _
                    clear hN
                    refine wpAnyH_ready (rs := [14]) (by kernel_rfl) (by simp) (AllReadyH.cons rfl (fun K hK => ?_) AllReadyH.nil)
                    have HRu : Hid (u2.ownsRow W.heap.size 3 1 (.slice (some ⟨u0.heap.size, 0, none⟩) 0 0) 0 []) := ⟨rfl, .inr ⟨u0.heap.size, 0, #[], rfl, Bu0.out.size, Eu2.out, Nat.le_refl _, Nat.zero_le _, rfl, rfl⟩⟩
                    refine stepApp rfl (.tmp 77) (.tmp 85) 41 41 rfl W.heap.size 3 i0 (.int .i64 0) 1 8 Try.underlying41 hi hz0 hz1 hz2 rfl (.slice (some ⟨u0.heap.size, 0, none⟩) 0 0) _ _ rfl HRu.out _ tn (intCells tl) rfl (HSA.out _ Bu2.out) ?c3 ?c4 ?c5 ?_
                    case c3 => unfold maxLen; omega
                    case c4 => omega
                    case c5 => exact Bu2.out.size
                    intro vu3 u3 O G
                    have Bu3 : Hid (Below W.heap.size W u3) := Bu2.out.grown G Bu2.out.size (fun y hy => (HRu.out.lt y hy).1)
                    rw [Nat.zero_add, List.nil_append] at O
                    have Xu3 : Hid (u3.heap[u1.heap.size]? = some (.cells #[.int .i64 k] 3 (0, 0))) := (G.block _ (Array.getElem?_eq_some_iff.1 Xu2.out).1 (fun e => by have h := Xu2.out.symm.trans (show u2.heap[u1.heap.size]? = some (.cells #[] 3 (0, 0)) from by rw [show u1.heap.size = u0.heap.size by simpa [Value.ownBlock] using e]; exact Eu2.out); simp at h)).trans Xu2.out
                    obtain ⟨au3, cu3, rfl⟩ := own_shape O
                    have Ru3 := Lib.hid O
                    clear O G
                    refine hK.out _ _ (HS.out _ Bu3.out) (fun hHeld => ?_)
                    clear hK K
                    try simp only [Act.put]
                    try simp only [List.setIfInBounds_toArray]
                    refine wpAnyH_ready (rs := [17]) (by kernel_rfl) (by simp) (AllReadyH.cons rfl (fun K hK => ?_) AllReadyH.nil)
                    refine stepApp rfl (.tmp 86) (.tmp 88) 41 41 rfl W.heap.size 3 i0 (.int .i64 0) 1 8 Try.underlying41 hi hz0 hz1 hz2 rfl (.slice au3 tn cu3) _ _ rfl Ru3.out _ 1 (intCells [k]) rfl (srcOneQ Xu3.out) ?c3 ?c4 ?c5 ?_
                    case c3 => unfold maxLen; omega
                    case c4 => omega
                    case c5 => exact Bu3.out.size
                    intro vu4 u4 O G
                    have Bu4 : Hid (Below W.heap.size W u4) := Bu3.out.grown G Bu3.out.size (fun y hy => (Ru3.out.lt y hy).1)
                    obtain ⟨au4, cu4, rfl⟩ := ownsRow_succ O
                    have Ru4 := Lib.hid O
                    clear O G
                    refine hK.out _ _ (HS.out _ Bu4.out) (fun hHeld => ?_)
                    clear hK K
                    try simp only [Act.put]
                    try simp only [List.setIfInBounds_toArray]
                    first
                      | (refine held_take 18 90 (v := ?_) rfl rfl (by kernel_rfl) (by kernel_rfl) (by kernel_rfl) (fun _ _ _ h => h) (by assumption) (by rfl) ?_ ?_; rotate_left; (focus (intro w hSw; (try dsimp only at hSw); go_simp <;> with_reducible rfl)))
                      | refine held_pass 18 90 rfl rfl (by kernel_rfl) (by kernel_rfl) (by kernel_rfl) (fun _ _ _ h => h) (by assumption) (by rfl) ?_
                    try simp only [Act.put]
                    try simp only [List.setIfInBounds_toArray]
                    first
                      | (refine held_take 19 91 (v := ?_) rfl rfl (by kernel_rfl) (by kernel_rfl) (by kernel_rfl) (fun _ _ _ h => h) (by assumption) (by rfl) ?_ ?_; rotate_left; (focus (intro w hSw; (try dsimp only at hSw); go_simp <;> with_reducible rfl)))
                      | refine held_pass 19 91 rfl rfl (by kernel_rfl) (by kernel_rfl) (by kernel_rfl) (fun _ _ _ h => h) (by assumption) (by rfl) ?_
                    try simp only [Act.put]
                    try simp only [List.setIfInBounds_toArray]
                    have hcell := HLD.out _ Bu4.out
                    have hfz := HFZ.out _ Bu4.out
                    refine wpAnyH_ready (rs := [20]) (by kernel_rfl) (by simp) (AllReadyH.cons rfl (fun K hK => ?_) AllReadyH.nil)
                    try simp only [Go.wp_at_succ, Go.wp_at_zero]
                    go_simp
                    have K0 : Hid (RowI u4 (.slice (some ⟨au4, 0, none⟩) (tn + 1) cu4) (tl ++ [k])) := RowI.own (by rw [← cells_app]; exact Ru4.out)
                    have K1 := Lib.hid (tell_fin (HHW.out.on Bu4.out) HM.out.symm (HBK.out _ Bu4.out) HIL.out K0.out)
                    have K3 := Lib.hid ((Only.of (S := fun k => k = g) Bu4.out).trans (Only.set g (off + i * 4 + 3) u4 (.slice (some ⟨au4, 0, none⟩) (tn + 1) cu4)))
                    clear hcell hfz
                    refine hK.out _ _ K1.out.cells.1.2.2 (fun hHeld => ?_)
                    clear hK K
                    try simp only [Act.put]
                    refine wpAnyH_done (by kernel_rfl) ?_ _
                    go_wp2
                    go_meet
                    case rel => exact ⟨rfl, _, K1.out, K3.out⟩
                · try simp only [Go.wp_at_succ, Go.wp_at_zero]
                  go_simp
                  refine hK.out _ _ (HS.out _ (Bu0.out.alloc Bu0.out.size _)) (fun hHeld => ?_)
                  clear hK K
                  try simp only [Act.put, List.setIfInBounds_toArray, List.set_cons_zero, List.set_cons_succ]
                  obtain ⟨u1, hN⟩ : ∃ u, u = u0.alloc (.cells #[.int .i64 k] 3) := ⟨_, rfl⟩
                  rw [← hN] at hHeld ⊢
                  have Bu1 : Hid (Below W.heap.size W u1) := by rw [hN]; exact Bu0.out.alloc Bu0.out.size _
                  have Xu1 : Hid (u1.heap[u0.heap.size]? = some (.cells #[.int .i64 k] 3 (0, 0))) := by rw [hN]; exact heap_alloc_new u0 _
                  clear hN
                  refine wpAnyH_ready (rs := [5]) (by kernel_rfl) (by simp) (AllReadyH.cons rfl (fun K hK => ?_) AllReadyH.nil)
                  try simp only [Go.wp_at_succ, Go.wp_at_zero]
                  go_simp
                  refine hK.out _ _ (HS.out _ (Bu1.out.alloc Bu1.out.size _)) (fun hHeld => ?_)
                  clear hK K
                  try simp only [Act.put, List.setIfInBounds_toArray, List.set_cons_zero, List.set_cons_succ]
                  obtain ⟨u2, hN⟩ : ∃ u, u = u1.alloc (.cells #[] 3) := ⟨_, rfl⟩
                  rw [← hN] at hHeld ⊢
                  have Bu2 : Hid (Below W.heap.size W u2) := by rw [hN]; exact Bu1.out.alloc Bu1.out.size _
                  have Xu2 : Hid (u2.heap[u0.heap.size]? = some (.cells #[.int .i64 k] 3 (0, 0))) := by rw [hN]; exact alloc_keepQ _ Xu1.out
                  have Eu2 : Hid (u2.heap[u1.heap.size]? = some (.cells #[] 3 (0, 0))) := by rw [hN]; exact heap_alloc_new u1 _
                  clear hN
                  refine wpAnyH_ready (rs := [14]) (by kernel_rfl) (by simp) (AllReadyH.cons rfl (fun K hK => ?_) AllReadyH.nil)
                  have HRu : Hid (u2.ownsRow W.heap.size 3 1 (.slice (some ⟨u1.heap.size, 0, none⟩) 0 0) 0 []) := ⟨rfl, .inr ⟨u1.heap.size, 0, #[], rfl, Bu1.out.size, Eu2.out, Nat.le_refl _, Nat.zero_le _, rfl, rfl⟩⟩
                  refine stepApp rfl (.tmp 77) (.tmp 85) 41 41 rfl W.heap.size 3 i0 (.int .i64 0) 1 8 Try.underlying41 hi hz0 hz1 hz2 rfl (.slice (some ⟨u1.heap.size, 0, none⟩) 0 0) _ _ rfl HRu.out _ tn (intCells tl) rfl (HSA.out _ Bu2.out) ?c3 ?c4 ?c5 ?_
                  case c3 => unfold maxLen; omega
                  case c4 => omega
                  case c5 => exact Bu2.out.size
                  intro vu3 u3 O G
                  have Bu3 : Hid (Below W.heap.size W u3) := Bu2.out.grown G Bu2.out.size (fun y hy => (HRu.out.lt y hy).1)
                  rw [Nat.zero_add, List.nil_append] at O
                  have Xu3 : Hid (u3.heap[u0.heap.size]? = some (.cells #[.int .i64 k] 3 (0, 0))) := (G.block _ (Array.getElem?_eq_some_iff.1 Xu2.out).1 (fun e => by have h := Xu2.out.symm.trans (show u2.heap[u0.heap.size]? = some (.cells #[] 3 (0, 0)) from by rw [show u0.heap.size = u1.heap.size by simpa [Value.ownBlock] using e]; exact Eu2.out); simp at h)).trans Xu2.out
                  obtain ⟨au3, cu3, rfl⟩ := own_shape O
                  have Ru3 := Lib.hid O
                  clear O G
                  refine hK.out _ _ (HS.out _ Bu3.out) (fun hHeld => ?_)
                  clear hK K
                  try simp only [Act.put]
                  try simp only [List.setIfInBounds_toArray]
                  refine wpAnyH_ready (rs := [17]) (by kernel_rfl) (by simp) (AllReadyH.cons rfl (fun K hK => ?_) AllReadyH.nil)
                  refine stepApp rfl (.tmp 86) (.tmp 88) 41 41 rfl W.heap.size 3 i0 (.int .i64 0) 1 8 Try.underlying41 hi hz0 hz1 hz2 rfl (.slice au3 tn cu3) _ _ rfl Ru3.out _ 1 (intCells [k]) rfl (srcOneQ Xu3.out) ?c3 ?c4 ?c5 ?_
                  case c3 => unfold maxLen; omega
                  case c4 => omega
                  case c5 => exact Bu3.out.size
                  intro vu4 u4 O G
                  have Bu4 : Hid (Below W.heap.size W u4) := Bu3.out.grown G Bu3.out.size (fun y hy => (Ru3.out.lt y hy).1)
                  obtain ⟨au4, cu4, rfl⟩ := ownsRow_succ O
                  have Ru4 := Lib.hid O
                  clear O G
                  refine hK.out _ _ (HS.out _ Bu4.out) (fun hHeld => ?_)
                  clear hK K
                  try simp only [Act.put]
                  try simp only [List.setIfInBounds_toArray]
                  first
                    | (refine held_take 18 90 (v := ?_) rfl rfl (by kernel_rfl) (by kernel_rfl) (by kernel_rfl) (fun _ _ _ h => h) (by assumption) (by rfl) ?_ ?_; rotate_left; (focus (intro w hSw; (try dsimp only at hSw); go_simp <;> with_reducible rfl)))
                    | refine held_pass 18 90 rfl rfl (by kernel_rfl) (by kernel_rfl) (by kernel_rfl) (fun _ _ _ h => h) (by assumption) (by rfl) ?_
                  try simp only [Act.put]
                  try simp only [List.setIfInBounds_toArray]
                  first
                    | (refine held_take 19 91 (v := ?_) rfl rfl (by kernel_rfl) (by kernel_rfl) (by kernel_rfl) (fun _ _ _ h => h) (by assumption) (by rfl) ?_ ?_; rotate_left; (focus (intro w hSw; (try dsimp only at hSw); go_simp <;> with_reducible rfl)))
                    | refine held_pass 19 91 rfl rfl (by kernel_rfl) (by kernel_rfl) (by kernel_rfl) (fun _ _ _ h => h) (by assumption) (by rfl) ?_
                  try simp only [Act.put]
                  try simp only [List.setIfInBounds_toArray]
                  have hcell := HLD.out _ Bu4.out
                  have hfz := HFZ.out _ Bu4.out
                  refine wpAnyH_ready (rs := [20]) (by kernel_rfl) (by simp) (AllReadyH.cons rfl (fun K hK => ?_) AllReadyH.nil)
                  try simp only [Go.wp_at_succ, Go.wp_at_zero]
                  go_simp
                  have K0 : Hid (RowI u4 (.slice (some ⟨au4, 0, none⟩) (tn + 1) cu4) (tl ++ [k])) := RowI.own (by rw [← cells_app]; exact Ru4.out)
                  have K1 := Lib.hid (tell_fin (HHW.out.on Bu4.out) HM.out.symm (HBK.out _ Bu4.out) HIL.out K0.out)
                  have K3 := Lib.hid ((Only.of (S := fun k => k = g) Bu4.out).trans (Only.set g (off + i * 4 + 3) u4 (.slice (some ⟨au4, 0, none⟩) (tn + 1) cu4)))
                  clear hcell hfz
                  refine hK.out _ _ K1.out.cells.1.2.2 (fun hHeld => ?_)
                  clear hK K
                  try simp only [Act.put]
                  refine wpAnyH_done (by kernel_rfl) ?_ _
                  go_wp2
                  go_meet
                  case rel => exact ⟨rfl, _, K1.out, K3.out⟩
              · try simp only [Go.wp_at_succ, Go.wp_at_zero]
                go_simp
                refine hK.out _ _ (HS.out _ (Bu0.out.alloc Bu0.out.size _)) (fun hHeld => ?_)
                clear hK K
                try simp only [Act.put, List.setIfInBounds_toArray, List.set_cons_zero, List.set_cons_succ]
                obtain ⟨u1, hN⟩ : ∃ u, u = u0.alloc (.cells #[.int .i64 k] 3) := ⟨_, rfl⟩
                rw [← hN] at hHeld ⊢
                have Bu1 : Hid (Below W.heap.size W u1) := by rw [hN]; exact Bu0.out.alloc Bu0.out.size _
                have Xu1 : Hid (u1.heap[u0.heap.size]? = some (.cells #[.int .i64 k] 3 (0, 0))) := by rw [hN]; exact heap_alloc_new u0 _
                clear hN
                refine wpAnyH_ready (rs := [5, 13]) (by kernel_rfl) (by simp) (AllReadyH.cons rfl (fun K hK => ?_) (AllReadyH.cons rfl (fun K hK => ?_) AllReadyH.nil))
                · try simp only [Go.wp_at_succ, Go.wp_at_zero]
                  go_simp
                  refine hK.out _ _ (HS.out _ (Bu1.out.alloc Bu1.out.size _)) (fun hHeld => ?_)
                  clear hK K
                  try simp only [Act.put, List.setIfInBounds_toArray, List.set_cons_zero, List.set_cons_succ]
                  obtain ⟨u2, hN⟩ : ∃ u, u = u1.alloc (.cells #[] 3) := ⟨_, rfl⟩
                  rw [← hN] at hHeld ⊢
                  have Bu2 : Hid (Below W.heap.size W u2) := by rw [hN]; exact Bu1.out.alloc Bu1.out.size _
                  have Xu2 : Hid (u2.heap[u0.heap.size]? = some (.cells #[.int .i64 k] 3 (0, 0))) := by rw [hN]; exact alloc_keepQ _ Xu1.out
                  have Eu2 : Hid (u2.heap[u1.heap.size]? = some (.cells #[] 3 (0, 0))) := by rw [hN]; exact heap_alloc_new u1 _
                  clear hN
                  refine wpAnyH_ready (rs := [13]) (by kernel_rfl) (by simp) (AllReadyH.cons rfl (fun K hK => ?_) AllReadyH.nil)
                  try simp only [Go.wp_at_succ, Go.wp_at_zero]
                  have hl := HLD.out _ Bu2.out
                  go_simp
                  refine hK.out _ _ (HS.out _ Bu2.out) (fun hHeld => ?_)
                  clear hK K hl
                  try simp only [Act.put, List.setIfInBounds_toArray, List.set_cons_zero, List.set_cons_succ]
                  refine wpAnyH_ready (rs := [14]) (by kernel_rfl) (by simp) (AllReadyH.cons rfl (fun K hK => ?_) AllReadyH.nil)
                  have HRu : Hid (u2.ownsRow W.heap.size 3 1 (.slice (some ⟨u1.heap.size, 0, none⟩) 0 0) 0 []) := ⟨rfl, .inr ⟨u1.heap.size, 0, #[], rfl, Bu1.out.size, Eu2.out, Nat.le_refl _, Nat.zero_le _, rfl, rfl⟩⟩
                  refine stepApp rfl (.tmp 77) (.tmp 85) 41 41 rfl W.heap.size 3 i0 (.int .i64 0) 1 8 Try.underlying41 hi hz0 hz1 hz2 rfl (.slice (some ⟨u1.heap.size, 0, none⟩) 0 0) _ _ rfl HRu.out _ tn (intCells tl) rfl (HSA.out _ Bu2.out) ?c3 ?c4 ?c5 ?_
                  case c3 => unfold maxLen; omega
                  case c4 => omega
                  case c5 => exact Bu2.out.size
                  intro vu3 u3 O G
                  have Bu3 : Hid (Below W.heap.size W u3) := Bu2.out.grown G Bu2.out.size (fun y hy => (HRu.out.lt y hy).1)
                  rw [Nat.zero_add, List.nil_append] at O
                  have Xu3 : Hid (u3.heap[u0.heap.size]? = some (.cells #[.int .i64 k] 3 (0, 0))) := (G.block _ (Array.getElem?_eq_some_iff.1 Xu2.out).1 (fun e => by have h := Xu2.out.symm.trans (show u2.heap[u0.heap.size]? = some (.cells #[] 3 (0, 0)) from by rw [show u0.heap.size = u1.heap.size by simpa [Value.ownBlock] using e]; exact Eu2.out); simp at h)).trans Xu2.out
                  obtain ⟨au3, cu3, rfl⟩ := own_shape O
                  have Ru3 := Lib.hid O
                  clear O G
                  refine hK.out _ _ (HS.out _ Bu3.out) (fun hHeld => ?_)
                  clear hK K
                  try simp only [Act.put]
                  try simp only [List.setIfInBounds_toArray]
                  refine wpAnyH_ready (rs := [17]) (by kernel_rfl) (by simp) (AllReadyH.cons rfl (fun K hK => ?_) AllReadyH.nil)
                  refine stepApp rfl (.tmp 86) (.tmp 88) 41 41 rfl W.heap.size 3 i0 (.int .i64 0) 1 8 Try.underlying41 hi hz0 hz1 hz2 rfl (.slice au3 tn cu3) _ _ rfl Ru3.out _ 1 (intCells [k]) rfl (srcOneQ Xu3.out) ?c3 ?c4 ?c5 ?_
                  case c3 => unfold maxLen; omega
                  case c4 => omega
                  case c5 => exact Bu3.out.size
                  intro vu4 u4 O G
                  have Bu4 : Hid (Below W.heap.size W u4) := Bu3.out.grown G Bu3.out.size (fun y hy => (Ru3.out.lt y hy).1)
                  obtain ⟨au4, cu4, rfl⟩ := ownsRow_succ O
                  have Ru4 := Lib.hid O
                  clear O G
                  refine hK.out _ _ (HS.out _ Bu4.out) (fun hHeld => ?_)
                  clear hK K
                  try simp only [Act.put]
                  try simp only [List.setIfInBounds_toArray]
                  first
                    | (refine held_take 18 90 (v := ?_) rfl rfl (by kernel_rfl) (by kernel_rfl) (by kernel_rfl) (fun _ _ _ h => h) (by assumption) (by rfl) ?_ ?_; rotate_left; (focus (intro w hSw; (try dsimp only at hSw); go_simp <;> with_reducible rfl)))
                    | refine held_pass 18 90 rfl rfl (by kernel_rfl) (by kernel_rfl) (by kernel_rfl) (fun _ _ _ h => h) (by assumption) (by rfl) ?_
                  try simp only [Act.put]
                  try simp only [List.setIfInBounds_toArray]
                  first
                    | (refine held_take 19 91 (v := ?_) rfl rfl (by kernel_rfl) (by kernel_rfl) (by kernel_rfl) (fun _ _ _ h => h) (by assumption) (by rfl) ?_ ?_; rotate_left; (focus (intro w hSw; (try dsimp only at hSw); go_simp <;> with_reducible rfl)))
                    | refine held_pass 19 91 rfl rfl (by kernel_rfl) (by kernel_rfl) (by kernel_rfl) (fun _ _ _ h => h) (by assumption) (by rfl) ?_
                  try simp only [Act.put]
                  try simp only [List.setIfInBounds_toArray]
                  have hcell := HLD.out _ Bu4.out
                  have hfz := HFZ.out _ Bu4.out
                  refine wpAnyH_ready (rs := [20]) (by kernel_rfl) (by simp) (AllReadyH.cons rfl (fun K hK => ?_) AllReadyH.nil)
                  try simp only [Go.wp_at_succ, Go.wp_at_zero]
                  go_simp
                  have K0 : Hid (RowI u4 (.slice (some ⟨au4, 0, none⟩) (tn + 1) cu4) (tl ++ [k])) := RowI.own (by rw [← cells_app]; exact Ru4.out)
                  have K1 := Lib.hid (tell_fin (HHW.out.on Bu4.out) HM.out.symm (HBK.out _ Bu4.out) HIL.out K0.out)
                  have K3 := Lib.hid ((Only.of (S := fun k => k = g) Bu4.out).trans (Only.set g (off + i * 4 + 3) u4 (.slice (some ⟨au4, 0, none⟩) (tn + 1) cu4)))
                  clear hcell hfz
                  refine hK.out _ _ K1.out.cells.1.2.2 (fun hHeld => ?_)
                  clear hK K
                  try simp only [Act.put]
                  refine wpAnyH_done (by kernel_rfl) ?_ _
                  go_wp2
                  go_meet
                  case rel => exact ⟨rfl, _, K1.out, K3.out⟩
                · try simp only [Go.wp_at_succ, Go.wp_at_zero]
                  have hl := HLD.out _ Bu1.out
                  go_simp
                  refine hK.out _ _ (HS.out _ Bu1.out) (fun hHeld => ?_)
                  clear hK K hl
                  try simp only [Act.put, List.setIfInBounds_toArray, List.set_cons_zero, List.set_cons_succ]
                  refine wpAnyH_ready (rs := [5]) (by kernel_rfl) (by simp) (AllReadyH.cons rfl (fun K hK => ?_) AllReadyH.nil)
                  try simp only [Go.wp_at_succ, Go.wp_at_zero]
                  go_simp
                  refine hK.out _ _ (HS.out _ (Bu1.out.alloc Bu1.out.size _)) (fun hHeld => ?_)
                  clear hK K
                  try simp only [Act.put, List.setIfInBounds_toArray, List.set_cons_zero, List.set_cons_succ]
                  obtain ⟨u2, hN⟩ : ∃ u, u = u1.alloc (.cells #[] 3) := ⟨_, rfl⟩
                  rw [← hN] at hHeld ⊢
                  have Bu2 : Hid (Below W.heap.size W u2) := by rw [hN]; exact Bu1.out.alloc Bu1.out.size _
                  have Xu2 : Hid (u2.heap[u0.heap.size]? = some (.cells #[.int .i64 k] 3 (0, 0))) := by rw [hN]; exact alloc_keepQ _ Xu1.out
                  have Eu2 : Hid (u2.heap[u1.heap.size]? = some (.cells #[] 3 (0, 0))) := by rw [hN]; exact heap_alloc_new u1 _
                  clear hN
                  refine wpAnyH_ready (rs := [14]) (by kernel_rfl) (by simp) (AllReadyH.cons rfl (fun K hK => ?_) AllReadyH.nil)
                  have HRu : Hid (u2.ownsRow W.heap.size 3 1 (.slice (some ⟨u1.heap.size, 0, none⟩) 0 0) 0 []) := ⟨rfl, .inr ⟨u1.heap.size, 0, #[], rfl, Bu1.out.size, Eu2.out, Nat.le_refl _, Nat.zero_le _, rfl, rfl⟩⟩
                  refine stepApp rfl (.tmp 77) (.tmp 85) 41 41 rfl W.heap.size 3 i0 (.int .i64 0) 1 8 Try.underlying41 hi hz0 hz1 hz2 rfl (.slice (some ⟨u1.heap.size, 0, none⟩) 0 0) _ _ rfl HRu.out _ tn (intCells tl) rfl (HSA.out _ Bu2.out) ?c3 ?c4 ?c5 ?_
                  case c3 => unfold maxLen; omega
                  case c4 => omega
                  case c5 => exact Bu2.out.size
                  intro vu3 u3 O G
                  have Bu3 : Hid (Below W.heap.size W u3) := Bu2.out.grown G Bu2.out.size (fun y hy => (HRu.out.lt y hy).1)
                  rw [Nat.zero_add, List.nil_append] at O
                  have Xu3 : Hid (u3.heap[u0.heap.size]? = some (.cells #[.int .i64 k] 3 (0, 0))) := (G.block _ (Array.getElem?_eq_some_iff.1 Xu2.out).1 (fun e => by have h := Xu2.out.symm.trans (show u2.heap[u0.heap.size]? = some (.cells #[] 3 (0, 0)) from by rw [show u0.heap.size = u1.heap.size by simpa [Value.ownBlock] using e]; exact Eu2.out); simp at h)).trans Xu2.out
                  obtain ⟨au3, cu3, rfl⟩ := own_shape O
                  have Ru3 := Lib.hid O
                  clear O G
                  refine hK.out _ _ (HS.out _ Bu3.out) (fun hHeld => ?_)
                  clear hK K
                  try simp only [Act.put]
                  try simp only [List.setIfInBounds_toArray]
                  refine wpAnyH_ready (rs := [17]) (by kernel_rfl) (by simp) (AllReadyH.cons rfl (fun K hK => ?_) AllReadyH.nil)
                  refine stepApp rfl (.tmp 86) (.tmp 88) 41 41 rfl W.heap.size 3 i0 (.int .i64 0) 1 8 Try.underlying41 hi hz0 hz1 hz2 rfl (.slice au3 tn cu3) _ _ rfl Ru3.out _ 1 (intCells [k]) rfl (srcOneQ Xu3.out) ?c3 ?c4 ?c5 ?_
                  case c3 => unfold maxLen; omega
                  case c4 => omega
                  case c5 => exact Bu3.out.size
                  intro vu4 u4 O G
                  have Bu4 : Hid (Below W.heap.size W u4) := Bu3.out.grown G Bu3.out.size (fun y hy => (Ru3.out.lt y hy).1)
                  obtain ⟨au4, cu4, rfl⟩ := ownsRow_succ O
                  have Ru4 := Lib.hid O
                  clear O G
                  refine hK.out _ _ (HS.out _ Bu4.out) (fun hHeld => ?_)
                  clear hK K
                  try simp only [Act.put]
                  try simp only [List.setIfInBounds_toArray]
                  first
                    | (refine held_take 18 90 (v := ?_) rfl rfl (by kernel_rfl) (by kernel_rfl) (by kernel_rfl) (fun _ _ _ h => h) (by assumption) (by rfl) ?_ ?_; rotate_left; (focus (intro w hSw; (try dsimp only at hSw); go_simp <;> with_reducible rfl)))
                    | refine held_pass 18 90 rfl rfl (by kernel_rfl) (by kernel_rfl) (by kernel_rfl) (fun _ _ _ h => h) (by assumption) (by rfl) ?_
                  try simp only [Act.put]
                  try simp only [List.setIfInBounds_toArray]
                  first
                    | (refine held_take 19 91 (v := ?_) rfl rfl (by kernel_rfl) (by kernel_rfl) (by kernel_rfl) (fun _ _ _ h => h) (by assumption) (by rfl) ?_ ?_; rotate_left; (focus (intro w hSw; (try dsimp only at hSw); go_simp <;> with_reducible rfl)))
                    | refine held_pass 19 91 rfl rfl (by kernel_rfl) (by kernel_rfl) (by kernel_rfl) (fun _ _ _ h => h) (by assumption) (by rfl) ?_
                  try simp only [Act.put]
                  try simp only [List.setIfInBounds_toArray]
                  have hcell := HLD.out _ Bu4.out
                  have hfz := HFZ.out _ Bu4.out
                  refine wpAnyH_ready (rs := [20]) (by kernel_rfl) (by simp) (AllReadyH.cons rfl (fun K hK => ?_) AllReadyH.nil)
                  try simp only [Go.wp_at_succ, Go.wp_at_zero]
                  go_simp
                  have K0 : Hid (RowI u4 (.slice (some ⟨au4, 0, none⟩) (tn + 1) cu4) (tl ++ [k])) := RowI.own (by rw [← cells_app]; exact Ru4.out)
                  have K1 := Lib.hid (tell_fin (HHW.out.on Bu4.out) HM.out.symm (HBK.out _ Bu4.out) HIL.out K0.out)
                  have K3 := Lib.hid ((Only.of (S := fun k => k = g) Bu4.out).trans (Only.set g (off + i * 4 + 3) u4 (.slice (some ⟨au4, 0, none⟩) (tn + 1) cu4)))
                  clear hcell hfz
                  refine hK.out _ _ K1.out.cells.1.2.2 (fun hHeld => ?_)
                  clear hK K
                  try simp only [Act.put]
                  refine wpAnyH_done (by kernel_rfl) ?_ _
                  go_wp2
                  go_meet
                  case rel => exact ⟨rfl, _, K1.out, K3.out⟩
            case rest =>
              obtain ⟨rfl, v, K1, K3⟩ := hcut
              go_wp2
              go_returns
              refine .inr ⟨rfl, i, HIL.out, HQ.out, .inr ⟨HIN.out, v, ?_, g, cs, HCS.out, HGN.out, (Only.of HB4.out).trans K3.out⟩⟩
              rw [← HTLD.out]
              have h := K1.out
              rw [HM.out] at h
              exact h
        · have d2 : (y == z) = false := by simpa using c2
          have HNQ := Lib.hid (HNX.out fun h => c2 (HIS.out.1 h).2)
          clear c2 HNX HNO HIS
          have cc2 := (FX.out _ (Below.refl _ _)).1
          go_wp2_with fail
          refine region_quiet (fun v => Below wr.heap.size wr v) (by kernel_rfl) (by kernel_rfl) (Below.refl wr.heap.size wr).drew ?_
          repeat (first
            | go_big_quiet_skip
            | (go_big_quiet_want
               (refine quiet_run (v := ?_) ?_ ?_; rotate_left; (intro u hu; obtain ⟨q2, q0, q1, q3, q4⟩ := FX.out u hu; go_simp <;> with_reducible rfl); simp only [Act.put, List.setIfInBounds_toArray, List.set_cons_zero, List.set_cons_succ]; go_big_quiet_on)))
          refine wpQuiet_nil ?_
          intro w4 h4
          have HB4 := Lib.hid (HB.out.trans (h4.mono HB.out.size))
          clear h4 d1 d2 s1 kk0 kk2 cc2
          go_wp2
          go_roundw
          case rel => exact ⟨i + 1, by have := HLT.out; omega, by go_num, HNQ.out, HB4.out⟩
          case measure => have := HLT.out; simp [intOf]; omega
      · have d1 : (x == id) = false := by simpa using c1
        have HNQ := Lib.hid (HNX.out fun h => c1 (HIS.out.1 h).1)
        clear c1 HNX HNO HIS
        have cc2 := (FX.out _ (Below.refl _ _)).1
        go_wp2_with fail
        refine region_quiet (fun v => Below wr.heap.size wr v) (by kernel_rfl) (by kernel_rfl) (Below.refl wr.heap.size wr).drew ?_
        repeat (first
          | go_big_quiet_skip
          | (go_big_quiet_want
             (refine quiet_run (v := ?_) ?_ ?_; rotate_left; (intro u hu; obtain ⟨q2, q0, q1, q3, q4⟩ := FX.out u hu; go_simp <;> with_reducible rfl); simp only [Act.put, List.setIfInBounds_toArray, List.set_cons_zero, List.set_cons_succ]; go_big_quiet_on)))
        refine wpQuiet_nil ?_
        intro w4 h4
        have HB4 := Lib.hid (HB.out.trans (h4.mono HB.out.size))
        clear h4 d1 s1 kk0 kk2 cc2
        go_wp2
        go_roundw
        case rel => exact ⟨i + 1, by have := HLT.out; omega, by go_num, HNQ.out, HB4.out⟩
        case measure => have := HLT.out; simp [intOf]; omega
    · have hle : ¬ (i : Int) < (m : Int) := by omega
      have HNO2 : Hid (∀ j, ¬ isQ L id j) := fun j hj =>
        match hj with
        | ⟨hj', _⟩ => HNO.out j (by have := HM.out; omega) hj
      go_wp2
      go_returns
      exact .inl ⟨rfl, HNO2.out, HB.out⟩
end Go.Proofs.Ytomjlhmkmihbeaa
