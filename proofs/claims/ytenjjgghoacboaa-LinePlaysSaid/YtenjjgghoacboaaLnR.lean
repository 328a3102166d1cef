/-
  THE LOG READ: its parts, its iterator, Find. Merged by gen/cat.sh.
-/
import Derived.Test.YtenjjgghoacboaaLnV
import Derived.Laws.BitsLemmas
import Derived.RangeFuncNested
import Derived.RangeFuncBound
import Derived.RangeFuncCalls
import Derived.RangeFuncLeaves
import Derived.RangeFuncBox
import Derived.Shelf.Abstract
import Derived.Shelf.RegionOpen
import Derived.WalkKit
import Derived.OwnWalkIn
import Derived.TacticsInMore
import Derived.LoopNIn
import Derived.LoopIn
import Derived.Maps.AppendAt
import Derived.Sort.QuietIn
/-! ## LnR -/
/-
  THE LOG READ: isMade, Len, Committed, of, Last, Seq, Reply; of nil. No condition but that a log has at most a million requests.
-/
namespace Go.Proofs.Ytenjjgghoacboaa
open Go.RowKit

section
variable {w : World} {n g d : Nat} {vq vr : Value} {vp : Nat → Value} {q : Int} {L : List ReqV} {K : List RcV}
set_option maxHeartbeats 400000 in
theorem lmade_r (H : Lin w n g d vq vr vp q L K) : Calls Try.prog 58 #[.pointer (some ⟨g, 0, none⟩)] w fun e w' => e = .returned (.bool true) ∧ w = w' := by
  have c0 := H.cd
  clear H
  go_enter Try.func58, Try.ntmps58
  go_wp2
  go_returns
  exact ⟨rfl, rfl⟩
set_option maxHeartbeats 400000 in
theorem llen_r (H : Lin w n g d vq vr vp q L K) : Calls Try.prog 15 #[.pointer (some ⟨g, 0, none⟩)] w fun e w' => e = .returned (.int .i64 L.length) ∧ w = w' := by
  have c0 := H.c1
  obtain ⟨a, c, rfl⟩ := H.len
  clear H
  go_enter Try.func15, Try.ntmps15
  go_wp2
  go_returns
  exact ⟨rfl, rfl⟩
set_option maxHeartbeats 400000 in
theorem lcom_r (H : Lin w n g d vq vr vp q L K) : Calls Try.prog 16 #[.pointer (some ⟨g, 0, none⟩)] w fun e w' => e = .returned (.int .i64 K.length) ∧ w = w' := by
  have c0 := H.cr
  obtain ⟨a, c, rfl⟩ := H.rlen
  clear H
  go_enter Try.func16, Try.ntmps16
  go_wp2
  go_returns
  exact ⟨rfl, rfl⟩
set_option maxHeartbeats 400000 in
theorem lof_r (H : Lin w n g d vq vr vp q L K) (c : Nat) (hc : c < 4) : Calls Try.prog 79 #[.pointer (some ⟨g, 0, none⟩), .int .i64 c] w fun e w' => e = .returned (vp c) ∧ w = w' := by
  have c0 := H.cp c hc
  obtain ⟨a, cc, he⟩ := H.plen hc
  rw [he] at c0 ⊢
  have i0 : (0 : Int) ≤ (c : Int) := by omega
  have i1 : (c : Int) < 4 := by omega
  clear H he
  go_enter Try.func79, Try.ntmps79
  go_wp2
  go_returns
  exact ⟨rfl, rfl⟩
end
set_option maxHeartbeats 400000 in
theorem lof_out (g : Nat) (c : Int) (hc : c < 0 ∨ 4 ≤ c) (w : World) : Calls Try.prog 79 #[.pointer (some ⟨g, 0, none⟩), .int .i64 c] w fun e w' => e = .returned (.slice none 0 0) ∧ w = w' := by
  by_cases h1 : c < 0
  · clear hc
    go_enter Try.func79, Try.ntmps79
    go_wp2
    go_returns
    exact ⟨rfl, rfl⟩
  · have h2 : 4 ≤ c := by omega
    have h3 : 0 ≤ c := by omega
    clear hc h1
    go_enter Try.func79, Try.ntmps79
    go_wp2
    go_returns
    exact ⟨rfl, rfl⟩
set_option maxHeartbeats 400000 in
theorem lof_nil (c : Int) (w : World) : Calls Try.prog 79 #[.pointer none, .int .i64 c] w fun e w' => e = .returned (.slice none 0 0) ∧ w = w' := by
  go_enter Try.func79, Try.ntmps79
  go_wp2
  go_returns
  exact ⟨rfl, rfl⟩
set_option maxHeartbeats 400000 in
theorem lmade_nil (w : World) : Calls Try.prog 58 #[.pointer none] w fun e w' => e = .returned (.bool false) ∧ w = w' := by
  go_enter Try.func58, Try.ntmps58
  go_wp2
  go_returns
  exact ⟨rfl, rfl⟩
set_option maxHeartbeats 400000 in
theorem llen_nil (w : World) : Calls Try.prog 15 #[.pointer none] w fun e w' => e = .returned (.int .i64 0) ∧ w = w' := by
  go_enter Try.func15, Try.ntmps15
  go_wp2
  go_returns
  exact ⟨rfl, rfl⟩
set_option maxHeartbeats 400000 in
theorem lcom_nil (w : World) : Calls Try.prog 16 #[.pointer none] w fun e w' => e = .returned (.int .i64 0) ∧ w = w' := by
  go_enter Try.func16, Try.ntmps16
  go_wp2
  go_returns
  exact ⟨rfl, rfl⟩

/-! ### Last -/
/-- The last place of an id: none of those that are none. -/
def lastV18 (L : List ReqV) (i : Int) : Int := if 0 ≤ i ∧ i < 32 then lastL L i.toNat else 0
set_option maxHeartbeats 400000 in
theorem llast_nil (c : Int) (w : World) : Calls Try.prog 28 #[.pointer none, .int .i64 c] w fun e w' => e = .returned (.int .i64 0) ∧ w = w' := by
  go_enter Try.func28, Try.ntmps28
  go_wp2
  go_returns
  exact ⟨rfl, rfl⟩
set_option maxHeartbeats 1000000 in
theorem llast_r {w : World} {n g d : Nat} {vq vr : Value} {vp : Nat → Value} {q : Int} {L : List ReqV} {K : List RcV} (H : Lin w n g d vq vr vp q L K) (i : Int) (M : Int) (hM : lastV18 L i = M) :
    Calls Try.prog 28 #[.pointer (some ⟨g, 0, none⟩), .int .i64 i] w fun e w' => e = .returned (.int .i64 M) ∧ w = w' := by
  by_cases hi : 0 ≤ i ∧ i < 32
  · obtain ⟨k, rfl⟩ : ∃ k : Nat, i = k := ⟨i.toNat, by omega⟩
    have c0 := H.cl k (by omega)
    rw [lastV18, if_pos hi, Int.toNat_natCast] at hM
    rw [hM] at c0
    have i0 : (0 : Int) ≤ (k : Int) := by omega
    have i1 : (k : Int) < 32 := by omega
    have i2 : ¬ (31 : Int) < (k : Int) := by omega
    clear H hM hi
    go_enter Try.func28, Try.ntmps28
    go_wp2
    go_returns
    exact ⟨rfl, rfl⟩
  · rw [lastV18, if_neg hi] at hM
    subst hM
    by_cases h1 : i < 0
    · clear hi H
      go_enter Try.func28, Try.ntmps28
      go_wp2
      go_returns
      exact ⟨rfl, rfl⟩
    · have h2 : 31 < i := by omega
      have h3 : 0 ≤ i := by omega
      clear hi h1 H
      go_enter Try.func28, Try.ntmps28
      go_wp2
      go_returns
      exact ⟨rfl, rfl⟩

/-! ### Seq -/
def seqV (L : List ReqV) (c : Int) : Int := if 0 ≤ c ∧ c < 4 then seqL L c.toNat else 0
theorem seqL_last {L : List ReqV} {c : Nat} {m : Nat} (h : (clN L c).length = m + 1) : ∃ k, k < L.length ∧ (clN L c)[m]? = some k ∧ seqL L c = (atL L k).seq ∧ (placesL L c)[m]? = some ((k : Int) + 1) := by
  have hm : m < (clN L c).length := by omega
  refine ⟨(clN L c)[m], (clN_mem.1 (List.getElem_mem hm)).1, by simp [hm], ?_, placesL_get L c m hm⟩
  have : (clN L c).getLast? = some (clN L c)[m] := by
    rw [List.getLast?_eq_getElem?, h]
    simp [hm]
  unfold seqL
  rw [this]
theorem seqL_none {L : List ReqV} {c : Nat} (h : (clN L c).length = 0) : seqL L c = 0 := by
  unfold seqL
  rw [List.eq_nil_of_length_eq_zero h]
  rfl
set_option maxHeartbeats 400000 in
theorem lseq_none (p : Option Addr) (c : Int) (a : Option Addr) (cc : Nat) (w : World) (HO : Hid (Calls Try.prog 79 #[.pointer p, .int .i64 c] w fun e w' => e = .returned (.slice a 0 cc) ∧ w = w')) :
    Calls Try.prog 46 #[.pointer p, .int .i64 c] w fun e w' => e = .returned (.int .i64 0) ∧ Below w.heap.size w w' := by
  go_enter Try.func46, Try.ntmps46
  go_wp2_with fail
  refine HO.out.mono ?_
  rintro e w1 ⟨rfl, rfl⟩
  go_wp2
  go_returns
  exact ⟨rfl, Below.refl _ _⟩
theorem lseq_nil (c : Int) (w : World) : Calls Try.prog 46 #[.pointer none, .int .i64 c] w fun e w' => e = .returned (.int .i64 0) ∧ Below w.heap.size w w' := lseq_none _ _ _ _ _ (lof_nil c w)
set_option maxRecDepth 100000 in
set_option maxHeartbeats 2000000 in
theorem lseq_r {w : World} {n g d : Nat} {vq vr : Value} {vp : Nat → Value} {q : Int} {L : List ReqV} {K : List RcV} (H : Lin w n g d vq vr vp q L K) (hL : L.length ≤ 1000000) (c : Int) (M : Int) (hM : seqV L c = M) :
    Calls Try.prog 46 #[.pointer (some ⟨g, 0, none⟩), .int .i64 c] w fun e w' => e = .returned (.int .i64 M) ∧ Below w.heap.size w w' := by
  by_cases hc : 0 ≤ c ∧ c < 4
  · obtain ⟨k, rfl⟩ : ∃ k : Nat, c = k := ⟨c.toNat, by omega⟩
    have hk4 : k < 4 := by omega
    rw [seqV, if_pos hc, Int.toNat_natCast] at hM
    have HO := Lib.hid (lof_r H k hk4)
    obtain ⟨a, cc, he⟩ := H.plen hk4
    obtain ⟨m, hm⟩ : ∃ m, m = (clN L k).length := ⟨_, rfl⟩
    rw [he, placesL_len, ← hm] at HO
    cases m with
    | zero =>
      rw [seqL_none hm.symm] at hM
      subst hM
      exact lseq_none _ _ _ _ _ HO
    | succ m =>
      obtain ⟨x, hx, _, hs, hp⟩ := seqL_last hm.symm
      rw [hs] at hM
      have hpi : (intCells (placesL L k))[m]? = some (.int .i64 ((x : Int) + 1)) := by simp [intCells, hp]
      obtain ⟨pb, pc, he2, hpc, p0⟩ := (H.pl k hk4).cell m _ hpi
      rw [he] at he2
      simp only [Value.slice.injEq] at he2
      obtain ⟨rfl, hpl, rfl⟩ := he2
      rw [placesL_len, ← hm] at hpc
      have c1 := H.c1
      obtain ⟨qb, qc, rfl, hqc, hreq⟩ := H.req x hx
      have q1 := hreq.2.1
      rw [hM] at q1
      have hml : m < 1000000 := by have := placesL_le L k; rw [placesL_len] at this; omega
      obtain ⟨N, hN⟩ : ∃ N, N = L.length := ⟨_, rfl⟩
      rw [← hN] at c1 hqc hx hL
      have x0 : (0 : Int) ≤ (x : Int) := by omega
      have x1 : (x : Int) < (N : Int) := by omega
      have m0 : (0 : Int) ≤ (m : Int) := by omega
      have m1 : (m : Int) < (m : Int) + 1 := by omega
      clear H he hm hc hk4 hs hp hpi hpl hreq hM hN
      go_enter Try.func46, Try.ntmps46
      go_wp2_with fail
      refine HO.out.mono ?_
      rintro e w1 ⟨rfl, rfl⟩
      have s1 : IntKind.i64.wrap ((m : Int) + 1 - 1) = (m : Int) := by rw [IntKind.wrap_i64]; omega
      have s2 : IntKind.i64.wrap ((x : Int) + 1 - 1) = (x : Int) := by rw [IntKind.wrap_i64]; omega
      go_wp2_with fail
      go_quiet (fail)
      go_wp2
      go_returns
      exact ⟨rfl, drewN_below (Below.refl _ _) _⟩
  · rw [seqV, if_neg hc] at hM
    subst hM
    exact lseq_none _ _ _ _ _ (lof_out g c (by omega) w)

/-! ### Reply -/
set_option maxHeartbeats 1000000 in
theorem lreply_nil (i : Int) (w : World) : Calls Try.prog 22 #[.pointer none, .int .i64 i] w fun e w' => e = .returned (.tuple #[.agg #[.int .i64 0, .int .i64 0, .string ⟨#[]⟩, .slice none 0 0], .int .i64 1]) ∧ Below w.heap.size w w' := by
  have HM := Lib.hid (fun u => lmade_nil u)
  go_enter Try.func22, Try.ntmps22
  go_wp2_with fail
  refine (HM.out _).mono ?_
  rintro e w1 ⟨rfl, rfl⟩
  go_wp2
  go_returns
  exact ⟨rfl, by go_grown⟩
set_option maxHeartbeats 1000000 in
theorem lreply_no {w : World} {n g d : Nat} {vq vr : Value} {vp : Nat → Value} {q : Int} {L : List ReqV} {K : List RcV} (H : Lin w n g d vq vr vp q L K) (i : Int) (hi : i < 1 ∨ K.length < i) :
    Calls Try.prog 22 #[.pointer (some ⟨g, 0, none⟩), .int .i64 i] w fun e w' => e = .returned (.tuple #[.agg #[.int .i64 0, .int .i64 0, .string ⟨#[]⟩, .slice none 0 0], .int .i64 6]) ∧ Below w.heap.size w w' := by
  have HM := Lib.hid (fun o => lmade_r (H.on ((Below.refl _ _).alloc (Nat.le_refl _) o)))
  have HC := Lib.hid (fun o => lcom_r (H.on ((Below.refl _ _).alloc (Nat.le_refl _) o)))
  clear H
  go_enter Try.func22, Try.ntmps22
  go_wp2_with fail
  refine (HM.out _).mono ?_
  rintro e w1 ⟨rfl, rfl⟩
  by_cases h1 : i < 1
  · clear hi
    go_wp2
    go_returns
    exact ⟨rfl, by go_grown⟩
  · have h2 : (K.length : Int) < i := by omega
    have h3 : 1 ≤ i := by omega
    clear hi h1
    go_wp2_with fail
    refine (HC.out _).mono ?_
    rintro e w1 ⟨rfl, rfl⟩
    go_wp2
    go_returns
    exact ⟨rfl, by go_grown⟩
/-- The reply at the place k + 1. -/
def rcV (K : List RcV) (k : Nat) : RcV := K.getD k rc0
theorem Lin.reply {w : World} {n g d : Nat} {vq vr : Value} {vp : Nat → Value} {q : Int} {L : List ReqV} {K : List RcV} (h : Lin w n g d vq vr vp q L K) (k : Nat) (hk : k < K.length) : ∃ b c, vr = .slice (some ⟨b, 0, none⟩) K.length c ∧ K.length ≤ c ∧
    w.cell? ⟨b, k * 4, none⟩ = some (.int .i64 (rcV K k).code) ∧ w.cell? ⟨b, k * 4 + 1, none⟩ = some (.int .i64 (rcV K k).ver) ∧ w.cell? ⟨b, k * 4 + 2, none⟩ = some (.string (rcV K k).data) ∧ w.cell? ⟨b, k * 4 + 3, none⟩ = some (rcV K k).lst := by
  have hg := rcCs_get K k hk
  obtain ⟨b, c, e, hc, c0⟩ := h.reps.cell (k * 4) _ (by have := hg 0 (by omega); rw [Nat.add_zero] at this; exact this)
  have hj : ∀ j x, j < 4 → (rcC (K.getD k rc0))[j]? = some x → w.cell? ⟨b, k * 4 + j, none⟩ = some x := by
    intro j x hj hx
    obtain ⟨b', c', e', _, cj⟩ := h.reps.cell (k * 4 + j) x ((hg j hj).trans hx)
    rw [e] at e'
    simp only [Value.slice.injEq, Option.some.injEq, Addr.mk.injEq] at e'
    obtain ⟨⟨rfl, _, _⟩, _, rfl⟩ := e'
    exact cj
  exact ⟨b, c, e, hc, hj 0 _ (by omega) rfl, hj 1 _ (by omega) rfl, hj 2 _ (by omega) rfl, hj 3 _ (by omega) rfl⟩
set_option maxRecDepth 100000 in
set_option maxHeartbeats 1000000 in
theorem lreply_yes {w : World} {n g d : Nat} {vq vr : Value} {vp : Nat → Value} {q : Int} {L : List ReqV} {K : List RcV} (H : Lin w n g d vq vr vp q L K) (k : Nat) (hk : k < K.length) (hK : K.length ≤ 1000000) :
    Calls Try.prog 22 #[.pointer (some ⟨g, 0, none⟩), .int .i64 ((k : Int) + 1)] w fun e w' => e = .returned (.tuple #[.agg #[.int .i64 (rcV K k).code, .int .i64 (rcV K k).ver, .string (rcV K k).data, (rcV K k).lst], .int .i64 0]) ∧ Below w.heap.size w w' := by
  have HM := Lib.hid (fun o => lmade_r (H.on ((Below.refl _ _).alloc (Nat.le_refl _) o)))
  have HC := Lib.hid (fun o => lcom_r (H.on ((Below.refl _ _).alloc (Nat.le_refl _) o)))
  have c0 := H.cr
  obtain ⟨b, c, rfl, hc, c1, c2, c3, c4⟩ := H.reply k hk
  obtain ⟨la, lc, hl, _⟩ := (H.rep k hk).lst
  have hl' : (rcV K k).lst = .slice la 0 lc := hl
  rw [hl'] at c4 ⊢
  have hlt := H.lt
  have hblt : b < w.heap.size := by
    rcases H.reps.own.2 with ⟨h, _⟩ | ⟨g', cap, cur, h, _, hg, _⟩
    · simp at h
    · simp only [Value.slice.injEq, Option.some.injEq, Addr.mk.injEq] at h
      obtain ⟨⟨rfl, _⟩, _⟩ := h
      exact lt_of_block hg
  generalize rcV K k = r at c1 c2 c3 ⊢
  obtain ⟨cd, vr_, dt, ls⟩ := r
  simp only at c1 c2 c3
  obtain ⟨N, hN⟩ : ∃ N, N = K.length := ⟨_, rfl⟩
  rw [← hN] at c0 hc hk hK HC
  have k0 : (0 : Int) ≤ (k : Int) := by omega
  have k1 : (k : Int) < (N : Int) := by omega
  clear H hl hl' hN
  go_enter Try.func22, Try.ntmps22
  go_wp2_with fail
  refine (HM.out _).mono ?_
  rintro e w1 ⟨rfl, rfl⟩
  go_wp2_with fail
  refine (HC.out _).mono ?_
  rintro e w1 ⟨rfl, rfl⟩
  go_wp2_with fail
  go_returns
  exact ⟨rfl, by go_grown⟩
end Go.Proofs.Ytenjjgghoacboaa

/-! ## LnI -/
/-
  THE LOG's ITERATOR over the requests behind a place, by contract. No condition but that a log has at most a million requests.
-/
namespace Go.Proofs.Ytenjjgghoacboaa
open Go.RowKit Go.Shelf

attribute [local go_sem] Oper.semAt_some

def encQ (r : ReqV) : Array Value := #[r.val]
/-- How many come. -/
def cntQ (L : List ReqV) (n : Nat) (most : Int) : Nat := min (L.length - n) most.toNat
def comeQ (L : List ReqV) (n i : Nat) : List ReqV := (L.drop n).take i
theorem comeQ_len {L : List ReqV} {n i : Nat} (h : n + i ≤ L.length) : (comeQ L n i).length = i := by
  unfold comeQ; rw [List.length_take, List.length_drop]; omega
theorem comeQ_next {L : List ReqV} {n i : Nat} (h : n + i < L.length) : comeQ L n (i + 1) = comeQ L n i ++ [atL L (n + i)] := by
  unfold comeQ
  have hl : i < (L.drop n).length := by rw [List.length_drop]; omega
  rw [List.take_succ_eq_append_getElem hl, atL_lt h, List.getElem_drop]

/-- The iterator's three boxes stand, the row of the requests, and the cell that names it. -/
structure KeepQ (R : Nat) (P : Nat → Prop) (g : Nat) (A C : World) : Prop where
  size : A.heap.size ≤ C.heap.size
  blk : ∀ k, k < A.heap.size → (k = R ∨ k = R + 1 ∨ k = R + 2 ∨ P k) → C.heap[k]? = A.heap[k]?
  c1 : g < A.heap.size → C.cell? ⟨g, 1, none⟩ = A.cell? ⟨g, 1, none⟩
theorem KeepQ.refl (R : Nat) (P : Nat → Prop) (g : Nat) (A : World) : KeepQ R P g A A := ⟨Nat.le_refl _, fun _ _ _ => rfl, fun _ => rfl⟩
theorem KeepQ.trans {R : Nat} {P : Nat → Prop} {g : Nat} {A C D : World} (h : KeepQ R P g A C) (k : KeepQ R P g C D) : KeepQ R P g A D :=
  ⟨Nat.le_trans h.size k.size, fun j hj hp => (k.blk j (Nat.lt_of_lt_of_le hj h.size) hp).trans (h.blk j hj hp), fun hg => (k.c1 (Nat.lt_of_lt_of_le hg h.size)).trans (h.c1 hg)⟩
theorem KeepQ.of {R : Nat} {P : Nat → Prop} {g : Nat} {A C : World} (hP : ∀ k, P k → k < R) (hg : g < R) (h : Below (R + 3) A C) : KeepQ R P g A C :=
  ⟨h.size, fun k _ hp => h.block k (by rcases hp with rfl | rfl | rfl | hp <;> first | omega | (have := hP k hp; omega)), fun _ => h.cell (p := ⟨g, 1, none⟩) (show g < R + 3 by omega)⟩

/-- What the iterator asks of its log, or of none. -/
structure AskQ (Kp : World → World → Prop) (pv : Option Addr) (L : List ReqV) (W : World) : Prop where
  few : L.length ≤ 1000000
  len : ∀ u, Kp W u → Calls Try.prog 15 #[.pointer pv] u fun e w' => e = .returned (.int .i64 L.length) ∧ u = w'
  req : ∀ u k, k < L.length → Kp W u → ∃ g qb qc, pv = some ⟨g, 0, none⟩ ∧ u.cell? ⟨g, 1, none⟩ = some (.slice (some ⟨qb, 0, none⟩) L.length qc) ∧ L.length ≤ qc ∧ ReqCells u qb (k * 6) (atL L k)

set_option maxRecDepth 100000 in
set_option maxHeartbeats 4000000 in
theorem behind1_in (m l R : Nat) (P : Nat → Prop) (g : Nat) (pv : Option Addr) (n : Nat) (most : Int) (L : List ReqV) (J Jx : List ReqV → World → Prop)
    (hY : ∀ pre x W, x ∈ L → J pre W → pre.length < L.length → YieldAt Fence.wide (m - 1) Try.prog l (encQ x) W fun e W' =>
      (e = .returned (.bool true) ∧ J (pre ++ [x]) W' ∧ KeepQ R P g W W') ∨ (e = .returned (.bool false) ∧ Jx (pre ++ [x]) W'))
    (W : World) (hR : R + 3 ≤ W.heap.size) (hg : AskQ (KeepQ R P g) pv L W) (hp : Boxed W R 23 (.pointer pv)) (hq : Boxed W (R + 1) 3 (.int .i64 n)) (hr : Boxed W (R + 2) 3 (.int .i64 most)) (h0 : J [] W) :
    CallsIn Fence.wide m Try.prog 94 #[.func (.yield l) #[] #[], .pointer (some ⟨R + 1, 0, none⟩), .pointer (some ⟨R, 0, none⟩), .pointer (some ⟨R + 2, 0, none⟩)] W fun e W' => (∃ v, e = .returned v) ∧
      ((∃ ys, ys = comeQ L n (cntQ L n most) ∧ J ys W') ∨ (∃ pre, (∃ k, k ≤ cntQ L n most ∧ pre = comeQ L n k) ∧ Jx pre W')) := by
  have hro : Fence.wide.round = none := rfl
  have HG := Lib.hid hg
  have HP := Lib.hid hp
  have HQ := Lib.hid hq
  have HR := Lib.hid hr
  have cq := hq.cell
  have H5 := Lib.hid hg.few
  obtain ⟨M, hM⟩ : ∃ M, cntQ L n most = M := ⟨_, rfl⟩
  have HMM := Lib.hid hM
  have hMn : M = 0 ∨ n + M ≤ L.length := by rw [← hM]; unfold cntQ; omega
  have hM0 : ∀ i, i < M → (i : Int) < most := by intro i hi; rw [← hM] at hi; unfold cntQ at hi; omega
  have hM1 : M = 0 ∨ n + M = L.length ∨ (M : Int) = most := by rw [← hM]; unfold cntQ; omega
  have hM2 : M = 0 → L.length ≤ n ∨ most ≤ 0 := by intro h; rw [← hM] at h; unfold cntQ at h; omega
  rw [hM]
  clear hg hp hq hr hM
  have HMN := Lib.hid hMn
  have HM0 := Lib.hid hM0
  have HM1 := Lib.hid hM1
  have HM2 := Lib.hid hM2
  clear hMn hM0 hM1 hM2
  refine callsIn_of_wp Try.func94 rfl trivial ?_ hro
  simp only [Try.ntmps94, List.size_toArray, List.length_cons, List.length_nil, Nat.reduceAdd, Nat.reduceSub, Array.replicate_succ, Array.replicate_zero, List.push_toArray, List.append_toArray, List.nil_append, List.cons_append]
  gi_wp2
  clear cq
  gi_loopw [5] (fun s5 wr => ∃ i : Nat, i ≤ M ∧ s5 = .int .i64 ((n : Int) + (i : Int)) ∧ J (comeQ L n i) wr ∧ KeepQ R P g W wr)
    (fun s5 _ => M + n - (intOf s5).toNat)
  case atStart => exact ⟨0, Nat.zero_le _, by simp, h0, KeepQ.refl _ _ _ _⟩
  case round =>
    obtain ⟨i, hi, rfl, hJs, hnx⟩ := hrel
    have hsz := hnx.size
    have HLEN : Hid (CallsIn Fence.wide (m - 1) Try.prog 15 #[.pointer pv] wr fun e w' => e = .returned (.int .i64 L.length) ∧ wr = w') := callsIn_wide.2 (HG.out.len wr hnx)
    have cp : wr.cell? ⟨R, 0, none⟩ = some (.pointer pv) := (World.cell?_of_block (a := ⟨R, 0, none⟩) (hnx.blk R (by omega) (.inl rfl))).trans HP.out.cell
    have cq : wr.cell? ⟨R + 1, 0, none⟩ = some (.int .i64 n) := (World.cell?_of_block (a := ⟨R + 1, 0, none⟩) (hnx.blk (R + 1) (by omega) (.inr (.inl rfl)))).trans HQ.out.cell
    have cr : wr.cell? ⟨R + 2, 0, none⟩ = some (.int .i64 most) := (World.cell?_of_block (a := ⟨R + 2, 0, none⟩) (hnx.blk (R + 2) (by omega) (.inr (.inr (.inl rfl))))).trans HR.out.cell
    have HK := Lib.hid hnx
    have few := H5.out
    by_cases hlt : i < M
    · have hin : n + i < L.length := by rcases HMN.out with h | h <;> omega
      have him := HM0.out i hlt
      have HY := Lib.hid (hY _ (atL L (n + i)) wr (by rw [atL_lt hin]; exact List.getElem_mem hin) hJs (by rw [comeQ_len (by omega)]; omega))
      have HE := Lib.hid (comeQ_next hin)
      obtain ⟨g', qb, qc, rfl, c1, hqc, hreq⟩ := HG.out.req wr (n + i) hin hnx
      obtain ⟨r, hr0⟩ : ∃ r, atL L (n + i) = r := ⟨_, rfl⟩
      rw [hr0] at HY HE hreq
      obtain ⟨q0, q1, q2, q3, q4, q5⟩ := hreq
      obtain ⟨k, hk⟩ : ∃ k, k = n + i := ⟨_, rfl⟩
      rw [← hk] at q0 q1 q2 q3 q4 q5 hin
      have hnk : (n : Int) + (i : Int) = (k : Int) := by omega
      rw [hnk]
      have HNK := Lib.hid hnk
      have HKK := Lib.hid hk
      clear hr0
      have he : encQ r = #[.agg #[.int .i64 r.client, .int .i64 r.seq, .int .i64 r.kind, .int .i64 r.id, .int .i64 r.mtch, .string r.data]] := rfl
      rw [he] at HY
      obtain ⟨N, hN⟩ : ∃ N, N = L.length := ⟨_, rfl⟩
      rw [← hN] at HLEN c1 hqc hin few
      have HNN := Lib.hid hN
      have k0 : (0 : Int) ≤ (k : Int) := by omega
      have k1 : (k : Int) < (N : Int) := by omega
      have k2 : (n : Int) ≤ (k : Int) := by omega
      have k3 : (k : Int) - (n : Int) < most := by omega
      obtain ⟨fn, tmps, assign, body, hy, hRR⟩ := HY.out
      clear he hN hnx hk hnk hY HY him
      gi_wp2_with (first
        | (refine ⟨trivial, (fun h => by cases h), ?_⟩; refine HLEN.out.mono ?_; rintro e w1 ⟨rfl, rfl⟩)
        | (refine ⟨(fun h => by cases h), ?_⟩; refine hRR.mono ?_; rintro e w2 (⟨rfl, hj, hk2⟩ | ⟨rfl, hj⟩)))
      · go_roundw
        case rel => exact ⟨i + 1, by omega, by rw [← HNK.out]; congr 1, by rw [HE.out]; exact hj, HK.out.trans hk2⟩
        case measure => have := HNK.out; simp [intOf]; omega
      · refine bodyPost_ret (results_none rfl _ _ _) rfl ?_
        exact ⟨⟨_, rfl⟩, .inr ⟨_, ⟨i + 1, by omega, HE.out.symm⟩, hj⟩⟩
    · obtain rfl : i = M := by omega
      by_cases hend : n + i < L.length
      · have him : most ≤ (i : Int) := by
          rcases HM1.out with h | h | h
          · rcases HM2.out h with h2 | h2 <;> omega
          · omega
          · omega
        obtain ⟨N, hN⟩ : ∃ N, N = L.length := ⟨_, rfl⟩
        rw [← hN] at HLEN few hend
        obtain ⟨k, hk⟩ : ∃ k, k = n + i := ⟨_, rfl⟩
        have hnk : (n : Int) + (i : Int) = (k : Int) := by omega
        rw [hnk]
        have k1 : (k : Int) < (N : Int) := by omega
        have k2 : (n : Int) ≤ (k : Int) := by omega
        have k3 : ¬ (k : Int) - (n : Int) < most := by omega
        clear hN hnx hk hnk hY him hend hlt
        gi_wp2_with (refine ⟨trivial, (fun h => by cases h), ?_⟩; refine HLEN.out.mono ?_; rintro e w1 ⟨rfl, rfl⟩)
        go_end0
        exact ⟨⟨_, rfl⟩, .inl ⟨_, rfl, hJs⟩⟩
      · obtain ⟨N, hN⟩ : ∃ N, N = L.length := ⟨_, rfl⟩
        rw [← hN] at HLEN few hend
        obtain ⟨k, hk⟩ : ∃ k, k = n + i := ⟨_, rfl⟩
        have hnk : (n : Int) + (i : Int) = (k : Int) := by omega
        rw [hnk]
        have k1 : ¬ (k : Int) < (N : Int) := by omega
        clear hN hnx hk hnk hY hend hlt
        gi_wp2_with (refine ⟨trivial, (fun h => by cases h), ?_⟩; refine HLEN.out.mono ?_; rintro e w1 ⟨rfl, rfl⟩)
        go_end0
        exact ⟨⟨_, rfl⟩, .inl ⟨_, rfl, hJs⟩⟩

theorem behind_stops (m R : Nat) (P : Nat → Prop) (g : Nat) (pv : Option Addr) (n : Nat) (most : Int) (L : List ReqV) (w : World) (hR : R + 3 ≤ w.heap.size) (hg : ∀ u, Below w.heap.size w u → AskQ (KeepQ R P g) pv L u) (hp : Boxed w R 23 (.pointer pv)) (hq : Boxed w (R + 1) 3 (.int .i64 n)) (hr : Boxed w (R + 2) 3 (.int .i64 most)) :
    SeqStopsK Fence.wide m Try.prog 94 #[.pointer (some ⟨R + 1, 0, none⟩), .pointer (some ⟨R, 0, none⟩), .pointer (some ⟨R + 2, 0, none⟩)] encQ (KeepQ R P g) (fun ys => ys = comeQ L n (cntQ L n most)) (fun pre => ∃ k, k ≤ cntQ L n most ∧ pre = comeQ L n k) L.length w := fun l J Jx W hW _ _ hY h0 =>
  behind1_in m l R P g pv n most L J Jx (fun pre x W _ => hY pre x W) W (Nat.le_trans hR hW.size) (hg _ hW) ((hW.block R (by omega)).trans hp) ((hW.block (R + 1) (by omega)).trans hq) ((hW.block (R + 2) (by omega)).trans hr) h0
/-- A request whose text is short. -/
structure RqE where
  r : ReqV
  h : r.data.size ≤ 64
def entE (r : ReqV) : RqE := if h : r.data.size ≤ 64 then ⟨r, h⟩ else ⟨rq0, by decide⟩
theorem entE_r {r : ReqV} (h : r.data.size ≤ 64) : (entE r).r = r := by unfold entE; rw [dif_pos h]
def encE (x : RqE) : Array Value := encQ x.r
theorem entE_map {L : List ReqV} (h : ∀ x ∈ L, x.data.size ≤ 64) : (L.map entE).map (·.r) = L := by
  rw [List.map_map]
  conv => rhs; rw [← List.map_id L]
  exact List.map_congr_left fun x hx => entE_r (h x hx)
theorem behind_stopsE (m R : Nat) (P : Nat → Prop) (g : Nat) (pv : Option Addr) (n : Nat) (most : Int) (L : List ReqV) (h64 : ∀ x ∈ L, x.data.size ≤ 64) (w : World) (hR : R + 3 ≤ w.heap.size) (hg : ∀ u, Below w.heap.size w u → AskQ (KeepQ R P g) pv L u) (hp : Boxed w R 23 (.pointer pv)) (hq : Boxed w (R + 1) 3 (.int .i64 n)) (hr : Boxed w (R + 2) 3 (.int .i64 most)) :
    SeqStopsK Fence.wide m Try.prog 94 #[.pointer (some ⟨R + 1, 0, none⟩), .pointer (some ⟨R, 0, none⟩), .pointer (some ⟨R + 2, 0, none⟩)] encE (KeepQ R P g) (fun ys => ys = (comeQ L n (cntQ L n most)).map entE) (fun _ => True) L.length w := fun l J Jx W hW _ _ hY h0 => by
  have h := behind1_in m l R P g pv n most L (fun pre W => J (pre.map entE) W) (fun pre W => Jx (pre.map entE) W) (fun pre x W hx hj hl => by
      have hy := hY (pre.map entE) (entE x) W hj (by rw [List.length_map]; exact hl)
      rw [show encE (entE x) = encQ x by unfold encE; rw [entE_r (h64 x hx)]] at hy
      rw [List.map_append]
      exact hy) W (Nat.le_trans hR hW.size) (hg _ hW) ((hW.block R (by omega)).trans hp) ((hW.block (R + 1) (by omega)).trans hq) ((hW.block (R + 2) (by omega)).trans hr) h0
  refine h.mono fun e W' ⟨hv, hh⟩ => ⟨hv, ?_⟩
  rcases hh with ⟨ys, rfl, hj⟩ | ⟨pre, _, hj⟩
  · exact .inl ⟨_, rfl, hj⟩
  · exact .inr ⟨_, trivial, hj⟩
set_option maxHeartbeats 400000 in
theorem behind_any (p : Option Addr) (n most : Int) (w : World) : Calls Try.prog 57 #[.pointer p, .int .i64 n, .int .i64 most] w fun e w' => e = .returned (.func (.func 94) #[] #[.pointer (some ⟨w.heap.size + 1, 0, none⟩), .pointer (some ⟨w.heap.size, 0, none⟩), .pointer (some ⟨w.heap.size + 2, 0, none⟩)]) ∧
    w' = ((w.alloc (.cells #[.pointer p] 23)).alloc (.cells #[.int .i64 n] 3)).alloc (.cells #[.int .i64 most] 3) := by
  go_enter Try.func57, Try.ntmps57
  go_wp2
  go_ret
  exact ⟨rfl, rfl⟩
/-- A log gives what its iterator asks. -/
theorem AskQ.of {w : World} {n0 g d : Nat} {vq vr : Value} {vp : Nat → Value} {q : Int} {L : List ReqV} {K : List RcV} (H : Lin w n0 g d vq vr vp q L K) (hL : L.length ≤ 1000000) (R : Nat) : AskQ (KeepQ R (fun k => vq.ownBlock = some k) g) (some ⟨g, 0, none⟩) L w := by
  refine ⟨hL, fun u hu => ?_, fun u k hk hu => ?_⟩
  · have c1 := (hu.c1 H.lt).trans H.c1
    obtain ⟨a, c, rfl⟩ := H.len
    go_enter Try.func15, Try.ntmps15
    go_wp2
    go_returns
    exact ⟨rfl, rfl⟩
  · have c1 := (hu.c1 H.lt).trans H.c1
    obtain ⟨qb, qc, e, hqc, hreq⟩ := H.req k hk
    have hb : vq.ownBlock = some qb := by rw [e]; rfl
    have hlt := (H.row.nb qb hb).lt
    have hk' := hu.blk qb hlt (.inr (.inr (.inr hb)))
    have hc : ∀ o, u.cell? ⟨qb, o, none⟩ = w.cell? ⟨qb, o, none⟩ := fun o => World.cell?_of_block (a := ⟨qb, o, none⟩) hk'
    rw [e] at c1
    exact ⟨g, qb, qc, rfl, c1, hqc, (hc _).trans hreq.1, (hc _).trans hreq.2.1, (hc _).trans hreq.2.2.1, (hc _).trans hreq.2.2.2.1, (hc _).trans hreq.2.2.2.2.1, (hc _).trans hreq.2.2.2.2.2⟩
theorem AskQ.nobody (Kp : World → World → Prop) (w : World) : AskQ Kp none [] w := ⟨Nat.zero_le _, fun u _ => llen_nil u, fun _ _ hk => absurd hk (Nat.not_lt_zero _)⟩
end Go.Proofs.Ytenjjgghoacboaa

/-! ## LnF -/
/-
  THE LOG's Find: a client's places are searched by halves. No condition but that a log has at most a million requests.
-/
namespace Go.Proofs.Ytenjjgghoacboaa
open Go.RowKit

def cmp18 (a b : Int) : Int := if a < b then -1 else if b < a then 1 else 0
set_option maxHeartbeats 400000 in
theorem isnan_r (a : Int) (w : World) : Calls Try.prog 112 #[.int .i64 a] w fun e w' => e = .returned (.bool false) ∧ w = w' := by
  go_enter Try.func112, Try.ntmps112
  go_wp2
  go_returns
  exact ⟨by simp, rfl⟩
set_option maxHeartbeats 1000000 in
theorem cmp_r (a b : Int) (w : World) (M : Int) (hM : Hid (cmp18 a b = M)) : Calls Try.prog 82 #[.int .i64 a, .int .i64 b] w fun e w' => e = .returned (.int .i64 M) ∧ w = w' := by
  have HA := Lib.hid (isnan_r a w)
  have HB := Lib.hid (isnan_r b w)
  have hM' := hM.out
  unfold cmp18 at hM'
  by_cases h1 : a < b
  · rw [if_pos h1] at hM'
    subst hM'
    go_enter Try.func82, Try.ntmps82
    go_wp2_with fail
    refine HA.out.mono ?_
    rintro e w1 ⟨rfl, rfl⟩
    go_wp2_with fail
    refine HB.out.mono ?_
    rintro e w1 ⟨rfl, rfl⟩
    go_wp2
    go_returns
    exact ⟨rfl, rfl⟩
  · rw [if_neg h1] at hM'
    by_cases h2 : b < a
    · rw [if_pos h2] at hM'
      subst hM'
      go_enter Try.func82, Try.ntmps82
      go_wp2_with fail
      refine HA.out.mono ?_
      rintro e w1 ⟨rfl, rfl⟩
      go_wp2_with fail
      refine HB.out.mono ?_
      rintro e w1 ⟨rfl, rfl⟩
      go_wp2
      go_returns
      exact ⟨rfl, rfl⟩
    · rw [if_neg h2] at hM'
      subst hM'
      go_enter Try.func82, Try.ntmps82
      go_wp2_with fail
      refine HA.out.mono ?_
      rintro e w1 ⟨rfl, rfl⟩
      go_wp2_with fail
      refine HB.out.mono ?_
      rintro e w1 ⟨rfl, rfl⟩
      go_wp2
      go_returns
      exact ⟨rfl, rfl⟩

set_option maxHeartbeats 1000000 in
theorem find1_r (R g qb N qc x : Nat) (s sq : Int) (w : World) (hR : w.cell? ⟨R, 0, none⟩ = some (.pointer (some ⟨g, 0, none⟩))) (hg : w.cell? ⟨g, 1, none⟩ = some (.slice (some ⟨qb, 0, none⟩) N qc)) (hx : x < N) (hN : N ≤ 1000000)
    (hq : w.cell? ⟨qb, x * 6 + 1, none⟩ = some (.int .i64 sq)) (M : Int) (hM : cmp18 sq s = M) :
    Calls Try.prog 81 #[.int .i64 ((x : Int) + 1), .int .i64 s, .pointer (some ⟨R, 0, none⟩)] w fun e w' => e = .returned (.int .i64 M) ∧ w = w' := by
  have HC := Lib.hid (cmp_r sq s w M hM)
  have x0 : (0 : Int) ≤ (x : Int) := by omega
  have x1 : (x : Int) < (N : Int) := by omega
  clear hM
  go_enter Try.func81, Try.ntmps81
  go_wp2_with fail
  refine HC.out.mono ?_
  rintro e w1 ⟨rfl, rfl⟩
  go_wp2
  go_returns
  exact ⟨rfl, rfl⟩

/-- What is searched by halves: numbers that rise, each cell told by the closure. -/
structure Seek (w : World) (R : Nat) (s : Int) (a : Option Addr) (P c : Nat) (X sq : Nat → Int) : Prop where
  row : ∀ k, k < P → ∃ b, a = some ⟨b, 0, none⟩ ∧ w.cell? ⟨b, k, none⟩ = some (.int .i64 (X k))
  call : ∀ k, k < P → Calls Try.prog 81 #[.int .i64 (X k), .int .i64 s, .pointer (some ⟨R, 0, none⟩)] w fun e w' => e = .returned (.int .i64 (cmp18 (sq k) s)) ∧ w = w'
  rise : ∀ i j, i < j → j < P → sq i < sq j
  le : P ≤ c
  few : P ≤ 1000000
/-- What is found. -/
structure FoundL (s : Int) (P : Nat) (sq : Nat → Int) (i : Nat) (f : Bool) : Prop where
  le : i ≤ P
  lo : ∀ k, k < i → sq k < s
  hi : ∀ k, i ≤ k → k < P → s ≤ sq k
  is : f = true ↔ i < P ∧ sq i = s
/-- How the search ends. -/
def SeekR (s : Int) (P : Nat) (sq : Nat → Int) (w : World) (e : Ending) (w' : World) : Prop := ∃ i f, e = .returned (.tuple #[.int .i64 (i : Nat), .bool f]) ∧ FoundL s P sq i f ∧ w = w'
theorem SeekR.of {s : Int} {P : Nat} {sq : Nat → Int} {w : World} {e : Ending} {w' : World} (i : Nat) (f : Bool) (he : e = .returned (.tuple #[.int .i64 (i : Nat), .bool f])) (hf : FoundL s P sq i f) (hw : w = w') : SeekR s P sq w e w' := ⟨i, f, he, hf, hw⟩
set_option maxRecDepth 100000 in
set_option maxHeartbeats 2000000 in
theorem search_r (w : World) (R : Nat) (s : Int) (a : Option Addr) (P c : Nat) (X sq : Nat → Int) (H : Seek w R s a P c X sq) :
    Calls Try.prog 80 #[.slice a P c, .int .i64 s, .func (.func 81) #[] #[.pointer (some ⟨R, 0, none⟩)]] w (SeekR s P sq w) := by
  have HS := Lib.hid H
  have hP := H.few
  clear H
  go_enter Try.func80, Try.ntmps80
  go_wp2
  go_loop [9, 10] (fun vi vj => ∃ i j : Nat, vi = .int .i64 i ∧ vj = .int .i64 j ∧ i ≤ j ∧ j ≤ P ∧ Hid ((∀ k, k < i → sq k < s) ∧ ∀ k, j ≤ k → k < P → s ≤ sq k)) (fun vi vj => (intOf vj).toNat - (intOf vi).toNat)
  case atStart => exact ⟨0, P, rfl, rfl, Nat.zero_le _, Nat.le_refl _, ⟨fun k hk => absurd hk (Nat.not_lt_zero _), fun k h1 h2 => by omega⟩⟩
  case round =>
    obtain ⟨i, j, rfl, rfl, hij, hjP, HB⟩ := hrel
    by_cases hlt : i < j
    · have i1 : (i : Int) < (j : Int) := by omega
      obtain ⟨h, hh, hi1, hj1⟩ : ∃ h : Nat, ((i : Int) + (j : Int)) / 2 = (h : Int) ∧ i ≤ h ∧ h < j := ⟨(i + j) / 2, by omega, by omega, by omega⟩
      have HH := Lib.hid hh
      obtain ⟨b, rfl, c0⟩ := HS.out.row h (by omega)
      have HC := Lib.hid (HS.out.call h (by omega))
      have h0 : (0 : Int) ≤ (h : Int) := by omega
      have h1 : (h : Int) < (P : Int) := by omega
      have HR : Hid (∀ x y, x < y → y < P → sq x < sq y) := HS.out.rise
      clear hh HS
      go_upto_region 5 with fail
      rw [HH.out]
      clear HH
      by_cases hcm : sq h < s
      · have e1 : cmp18 (sq h) s = -1 := by unfold cmp18; rw [if_pos hcm]
        rw [e1] at HC
        have HB2 : Hid ((∀ k, k < h + 1 → sq k < s) ∧ ∀ k, j ≤ k → k < P → s ≤ sq k) := by
          refine ⟨fun k hk => ?_, HB.out.2⟩
          rcases (show k = h ∨ k < h by omega) with rfl | hk'
          · exact hcm
          · have := HR.out k h hk' (by omega); omega
        clear hcm e1 HB HR
        go_wp2_with fail
        refine HC.out.mono ?_
        rintro e w1 ⟨rfl, rfl⟩
        go_wp2
        go_round
        case rel => exact ⟨h + 1, j, by go_num, rfl, by omega, hjP, HB2.out⟩
        case measure => simp [intOf]; omega
      · obtain ⟨M, hM⟩ : ∃ M, cmp18 (sq h) s = M := ⟨_, rfl⟩
        have hM0 : ¬ M < 0 := by rw [← hM]; unfold cmp18; rw [if_neg hcm]; split <;> omega
        rw [hM] at HC
        have HB2 : Hid ((∀ k, k < i → sq k < s) ∧ ∀ k, h ≤ k → k < P → s ≤ sq k) := by
          refine ⟨HB.out.1, fun k hk hkP => ?_⟩
          rcases (show k = h ∨ h < k by omega) with rfl | hk'
          · omega
          · have := HR.out h k hk' hkP; omega
        clear hcm hM HB HR
        go_wp2_with fail
        refine HC.out.mono ?_
        rintro e w1 ⟨rfl, rfl⟩
        go_wp2
        go_round
        case rel => exact ⟨i, h, rfl, rfl, by omega, by omega, HB2.out⟩
        case measure => simp [intOf]; omega
    · obtain rfl : i = j := by omega
      by_cases hiP : i < P
      · obtain ⟨b, rfl, c0⟩ := HS.out.row i hiP
        have HC := Lib.hid (HS.out.call i hiP)
        have h0 : (0 : Int) ≤ (i : Int) := by omega
        have h1 : (i : Int) < (P : Int) := by omega
        have h2 := HB.out.2 i (Nat.le_refl _) hiP
        clear HS hlt
        by_cases he : sq i = s
        · have e1 : cmp18 (sq i) s = 0 := by unfold cmp18; rw [if_neg (by omega), if_neg (by omega)]
          rw [e1] at HC
          have HF : Hid (FoundL s P sq i true) := ⟨by omega, HB.out.1, HB.out.2, fun _ => ⟨hiP, he⟩, fun _ => rfl⟩
          clear he e1 HB h2
          go_wp2_with fail
          refine HC.out.mono ?_
          rintro e w1 ⟨rfl, rfl⟩
          go_wp2
          go_returns
          exact SeekR.of i true rfl HF.out rfl
        · have e1 : cmp18 (sq i) s = 1 := by unfold cmp18; rw [if_neg (by omega), if_pos (by omega)]
          rw [e1] at HC
          have HF : Hid (FoundL s P sq i false) := ⟨by omega, HB.out.1, HB.out.2, (fun h => by cases h), fun h => absurd h.2 he⟩
          clear he e1 HB h2
          go_wp2_with fail
          refine HC.out.mono ?_
          rintro e w1 ⟨rfl, rfl⟩
          go_wp2
          go_returns
          exact SeekR.of i false rfl HF.out rfl
      · have h1 : ¬ (i : Int) < (P : Int) := by omega
        have HF : Hid (FoundL s P sq i false) := ⟨by omega, HB.out.1, HB.out.2, (fun h => by cases h), fun h => absurd h.1 hiP⟩
        clear HS hlt HB hiP
        go_wp2
        go_returns
        exact SeekR.of i false rfl HF.out rfl

/-! ### Find -/
/-- What Find tells of a log. -/
def FindOk (L : List ReqV) (c s : Int) (p : Int) (f : Bool) : Prop := (f = true ∧ ∃ k : Nat, p = (k : Int) + 1 ∧ Stands L c s k) ∨ (f = false ∧ p = 0 ∧ ∀ k, ¬ Stands L c s k)
/-- How Find ends. -/
def FindR (L : List ReqV) (c s : Int) (w : World) (e : Ending) (w' : World) : Prop := ∃ p f, e = .returned (.tuple #[.int .i64 p, .bool f]) ∧ FindOk L c s p f ∧ Below w.heap.size w w'
theorem FindR.of {L : List ReqV} {c s : Int} {w : World} {e : Ending} {w' : World} (p : Int) (f : Bool) (he : e = .returned (.tuple #[.int .i64 p, .bool f])) (hf : FindOk L c s p f) (hw : Below w.heap.size w w') : FindR L c s w e w' := ⟨p, f, he, hf, hw⟩
set_option maxRecDepth 100000 in
set_option maxHeartbeats 1000000 in
theorem lfind_none (p : Option Addr) (c s : Int) (a : Option Addr) (cc : Nat) (w : World) (HO : Hid (∀ o, Calls Try.prog 79 #[.pointer p, .int .i64 c] (w.alloc o) fun e w' => e = .returned (.slice a 0 cc) ∧ w.alloc o = w')) :
    Calls Try.prog 45 #[.pointer p, .int .i64 c, .int .i64 s] w fun e w' => e = .returned (.tuple #[.int .i64 0, .bool false]) ∧ Below w.heap.size w w' := by
  have HS : Hid (Calls Try.prog 80 #[.slice a 0 cc, .int .i64 s, .func (.func 81) #[] #[.pointer (some ⟨w.heap.size, 0, none⟩)]] (w.alloc (.cells #[.pointer p] 23)) (SeekR s 0 (fun _ => 0) (w.alloc (.cells #[.pointer p] 23)))) :=
    search_r _ _ s a 0 cc (fun _ => 0) (fun _ => 0) ⟨fun k hk => absurd hk (Nat.not_lt_zero _), fun k hk => absurd hk (Nat.not_lt_zero _), fun i j _ hj => absurd hj (Nat.not_lt_zero _), Nat.zero_le _, Nat.zero_le _⟩
  go_enter Try.func45, Try.ntmps45
  go_wp2_with fail
  refine (HO.out _).mono ?_
  rintro e w1 ⟨rfl, rfl⟩
  go_wp2_with fail
  refine HS.out.mono ?_
  rintro e w1 ⟨i, f, rfl, hf, rfl⟩
  obtain rfl : f = false := by
    cases f
    · rfl
    · have := (hf.is.1 rfl).1; omega
  clear hf
  go_wp2
  go_returns
  exact ⟨rfl, by go_grown⟩
theorem lfind_nil (c s : Int) (w : World) : Calls Try.prog 45 #[.pointer none, .int .i64 c, .int .i64 s] w fun e w' => e = .returned (.tuple #[.int .i64 0, .bool false]) ∧ Below w.heap.size w w' :=
  lfind_none _ _ _ _ _ _ fun _ => lof_nil c _
set_option maxRecDepth 100000 in
set_option maxHeartbeats 2000000 in
theorem lfind_r {w : World} {n g d : Nat} {vq vr : Value} {vp : Nat → Value} {q : Int} {L : List ReqV} {K : List RcV} (H : Lin w n g d vq vr vp q L K) (hL : L.length ≤ 1000000) (c s : Int) :
    Calls Try.prog 45 #[.pointer (some ⟨g, 0, none⟩), .int .i64 c, .int .i64 s] w (FindR L c s w) := by
  by_cases hc : 0 ≤ c ∧ c < 4
  · obtain ⟨k, rfl⟩ : ∃ k : Nat, c = k := ⟨c.toNat, by omega⟩
    have hk4 : k < 4 := by omega
    have H1 := Lib.hid (H.on ((Below.refl _ _).alloc (Nat.le_refl _) (.cells #[.pointer (some ⟨g, 0, none⟩)] 23)))
    have HO := Lib.hid (lof_r H1.out k hk4)
    obtain ⟨a, cc, he⟩ := H.plen hk4
    obtain ⟨P, hP⟩ : ∃ P, P = (clN L k).length := ⟨_, rfl⟩
    rw [he, placesL_len, ← hP] at HO
    have HSK : Hid (Seek (w.alloc (.cells #[.pointer (some ⟨g, 0, none⟩)] 23)) w.heap.size s a P cc (fun j => (((clN L k).getD j 0 : Nat) : Int) + 1) (fun j => (atL L ((clN L k).getD j 0)).seq)) := by
      refine ⟨fun j hj => ?_, fun j hj => ?_, fun i j hij hj => ?_, ?_, ?_⟩
      · have hj' : j < (clN L k).length := by omega
        have hpi : (intCells (placesL L k))[j]? = some (.int .i64 ((((clN L k).getD j 0 : Nat) : Int) + 1)) := by
          simp [intCells, placesL_get L k j hj', hj']
        obtain ⟨b, e, he2, _, hcell⟩ := (H1.out.pl k hk4).cell j _ hpi
        rw [he] at he2
        simp only [Value.slice.injEq] at he2
        exact ⟨b, he2.1, hcell⟩
      · have hj' : j < (clN L k).length := by omega
        have hmem : (clN L k).getD j 0 < L.length := by
          have := (clN_mem.1 (List.getElem_mem hj')).1
          simpa [hj'] using this
        obtain ⟨qb, qc, hq, _, hreq⟩ := H1.out.req _ hmem
        have c1 := H1.out.c1
        rw [hq] at c1
        exact find1_r _ g qb L.length qc _ s _ _ (cell_of_one (heap_alloc_new w _)) c1 hmem hL hreq.2.1 _ rfl
      · have hj' : j < (clN L k).length := by omega
        have hi' : i < (clN L k).length := by omega
        have := clN_seq H1.out.ok k hij hj'
        simpa [hi', hj'] using this
      · rcases (H1.out.pl k hk4).own.2 with ⟨h1, h2⟩ | ⟨_, cap, _, h1, _, _, hle, _⟩
        · rw [hP, ← placesL_len]; omega
        · rw [he] at h1
          simp only [Value.slice.injEq] at h1
          rw [hP, ← placesL_len, h1.2.2]; exact hle
      · have := placesL_le L k; rw [placesL_len] at this; omega
    have HS := Lib.hid (search_r _ _ s a P cc _ _ HSK.out)
    have HOK : Hid (∀ i f, FoundL s P (fun j => (atL L ((clN L k).getD j 0)).seq) i f → (f = true → i < P) ∧ FindOk L k s (if f = true then (((clN L k).getD i 0 : Nat) : Int) + 1 else 0) f) := by
      intro i f hf
      refine ⟨fun h => (hf.is.1 h).1, ?_⟩
      cases f with
      | true =>
        obtain ⟨h1, h2⟩ := hf.is.1 rfl
        have hi' : i < (clN L k).length := by omega
        have hm := clN_mem.1 (List.getElem_mem hi')
        refine .inl ⟨rfl, (clN L k).getD i 0, if_pos rfl, ?_⟩
        have hg : (clN L k).getD i 0 = (clN L k)[i] := by simp [hi']
        rw [hg] at h2 ⊢
        exact ⟨hm.1, hm.2, h2⟩
      | false =>
        refine .inr ⟨rfl, if_neg (by simp), fun x hx => ?_⟩
        obtain ⟨x1, x2, x3⟩ := hx
        obtain ⟨j, hj, hjx⟩ := List.getElem_of_mem (clN_mem.2 ⟨x1, x2⟩)
        have hg : (clN L k).getD j 0 = x := by simp [hj, hjx]
        have hnot : ¬ (i < P ∧ (atL L ((clN L k).getD i 0)).seq = s) := fun h => by have := hf.is.2 h; cases this
        rcases Nat.lt_trichotomy j i with hji | hji | hji
        · have := hf.lo j hji
          rw [hg] at this
          omega
        · subst hji
          exact hnot ⟨by omega, by rw [hg]; exact x3⟩
        · have hi' : i < (clN L k).length := by omega
          have h1 := hf.hi i (Nat.le_refl _) (by omega)
          have h2 := clN_seq H1.out.ok k hji hj
          rw [hjx, x3] at h2
          simp [hi'] at h1
          omega
    have HROW : Hid (∀ i, i < P → ∃ b, a = some ⟨b, 0, none⟩ ∧ (w.alloc (.cells #[.pointer (some ⟨g, 0, none⟩)] 23)).cell? ⟨b, i, none⟩ = some (.int .i64 ((((clN L k).getD i 0 : Nat) : Int) + 1))) := HSK.out.row
    clear HSK H1 H hc he hP
    go_enter Try.func45, Try.ntmps45
    go_wp2_with fail
    refine HO.out.mono ?_
    rintro e w1 ⟨rfl, rfl⟩
    go_wp2_with fail
    refine HS.out.mono ?_
    rintro e w1 ⟨i, f, rfl, hf, rfl⟩
    have HF := Lib.hid (HOK.out i f hf)
    cases f with
    | false =>
      clear hf
      go_wp2
      go_returns
      exact FindR.of _ _ rfl HF.out.2 (by go_grown)
    | true =>
      have hiP := HF.out.1 rfl
      obtain ⟨b, rfl, c0⟩ := HROW.out i hiP
      have i0 : (0 : Int) ≤ (i : Int) := by omega
      have i1 : (i : Int) < (P : Int) := by omega
      clear hf HROW
      go_wp2
      go_returns
      exact FindR.of _ _ rfl HF.out.2 (by go_grown)
  · have HO : Hid (∀ o, Calls Try.prog 79 #[.pointer (some ⟨g, 0, none⟩), .int .i64 c] (w.alloc o) fun e w' => e = .returned (.slice none 0 0) ∧ w.alloc o = w') := fun _ => lof_out g c (by omega) _
    refine (lfind_none _ c s _ _ w HO).mono fun e w' ⟨he, hb⟩ => FindR.of _ _ he (.inr ⟨rfl, rfl, fun k hk => hc ?_⟩) hb
    obtain ⟨k1, k2, _⟩ := hk
    have hp := (H.ok k k1).1.1
    unfold ReqV.may at hp
    omega
end Go.Proofs.Ytenjjgghoacboaa
