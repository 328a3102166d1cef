/-
  THE LOG READ: isMade, Len, Committed, of, Last, Seq, Reply; of nil. No condition but that a log has at most a million requests.
-/
import Derived.Test.YtenjjgghoacboaaLnW
import Derived.Laws.BitsLemmas
namespace Go.Proofs.Ytenjjgghoacboaa
open Go.RowKit

section
variable {w : World} {n g d : Nat} {vq vr : Value} {vp : Nat → Value} {q : Int} {L : List ReqV} {K : List RcV}
set_option maxHeartbeats 400000 in
theorem lmade_r (H : Lin w n g d vq vr vp q L K) : Calls Try.prog 58 #[.pointer (some ⟨g, 0, none⟩)] w fun e w' => e = .returned (.bool true) ∧ w = w' := by
  have c0 := H.cd
  clear H
  go_enter Try.func58, Try.ntmps58
  go_wp2
  go_returns
  exact ⟨rfl, rfl⟩
set_option maxHeartbeats 400000 in
theorem llen_r (H : Lin w n g d vq vr vp q L K) : Calls Try.prog 15 #[.pointer (some ⟨g, 0, none⟩)] w fun e w' => e = .returned (.int .i64 L.length) ∧ w = w' := by
  have c0 := H.c1
  obtain ⟨a, c, rfl⟩ := H.len
  clear H
  go_enter Try.func15, Try.ntmps15
  go_wp2
  go_returns
  exact ⟨rfl, rfl⟩
set_option maxHeartbeats 400000 in
theorem lcom_r (H : Lin w n g d vq vr vp q L K) : Calls Try.prog 16 #[.pointer (some ⟨g, 0, none⟩)] w fun e w' => e = .returned (.int .i64 K.length) ∧ w = w' := by
  have c0 := H.cr
  obtain ⟨a, c, rfl⟩ := H.rlen
  clear H
  go_enter Try.func16, Try.ntmps16
  go_wp2
  go_returns
  exact ⟨rfl, rfl⟩
set_option maxHeartbeats 400000 in
theorem lof_r (H : Lin w n g d vq vr vp q L K) (c : Nat) (hc : c < 4) : Calls Try.prog 79 #[.pointer (some ⟨g, 0, none⟩), .int .i64 c] w fun e w' => e = .returned (vp c) ∧ w = w' := by
  have c0 := H.cp c hc
  obtain ⟨a, cc, he⟩ := H.plen hc
  rw [he] at c0 ⊢
  have i0 : (0 : Int) ≤ (c : Int) := by omega
  have i1 : (c : Int) < 4 := by omega
  clear H he
  go_enter Try.func79, Try.ntmps79
  go_wp2
  go_returns
  exact ⟨rfl, rfl⟩
end
set_option maxHeartbeats 400000 in
theorem lof_out (g : Nat) (c : Int) (hc : c < 0 ∨ 4 ≤ c) (w : World) : Calls Try.prog 79 #[.pointer (some ⟨g, 0, none⟩), .int .i64 c] w fun e w' => e = .returned (.slice none 0 0) ∧ w = w' := by
  by_cases h1 : c < 0
  · clear hc
    go_enter Try.func79, Try.ntmps79
    go_wp2
    go_returns
    exact ⟨rfl, rfl⟩
  · have h2 : 4 ≤ c := by omega
    have h3 : 0 ≤ c := by omega
    clear hc h1
    go_enter Try.func79, Try.ntmps79
    go_wp2
    go_returns
    exact ⟨rfl, rfl⟩
set_option maxHeartbeats 400000 in
theorem lof_nil (c : Int) (w : World) : Calls Try.prog 79 #[.pointer none, .int .i64 c] w fun e w' => e = .returned (.slice none 0 0) ∧ w = w' := by
  go_enter Try.func79, Try.ntmps79
  go_wp2
  go_returns
  exact ⟨rfl, rfl⟩
set_option maxHeartbeats 400000 in
theorem lmade_nil (w : World) : Calls Try.prog 58 #[.pointer none] w fun e w' => e = .returned (.bool false) ∧ w = w' := by
  go_enter Try.func58, Try.ntmps58
  go_wp2
  go_returns
  exact ⟨rfl, rfl⟩
set_option maxHeartbeats 400000 in
theorem llen_nil (w : World) : Calls Try.prog 15 #[.pointer none] w fun e w' => e = .returned (.int .i64 0) ∧ w = w' := by
  go_enter Try.func15, Try.ntmps15
  go_wp2
  go_returns
  exact ⟨rfl, rfl⟩
set_option maxHeartbeats 400000 in
theorem lcom_nil (w : World) : Calls Try.prog 16 #[.pointer none] w fun e w' => e = .returned (.int .i64 0) ∧ w = w' := by
  go_enter Try.func16, Try.ntmps16
  go_wp2
  go_returns
  exact ⟨rfl, rfl⟩

/-! ### Last -/
/-- The last place of an id: none of those that are none. -/
def lastV18 (L : List ReqV) (i : Int) : Int := if 0 ≤ i ∧ i < 32 then lastL L i.toNat else 0
set_option maxHeartbeats 400000 in
theorem llast_nil (c : Int) (w : World) : Calls Try.prog 28 #[.pointer none, .int .i64 c] w fun e w' => e = .returned (.int .i64 0) ∧ w = w' := by
  go_enter Try.func28, Try.ntmps28
  go_wp2
  go_returns
  exact ⟨rfl, rfl⟩
set_option maxHeartbeats 1000000 in
theorem llast_r {w : World} {n g d : Nat} {vq vr : Value} {vp : Nat → Value} {q : Int} {L : List ReqV} {K : List RcV} (H : Lin w n g d vq vr vp q L K) (i : Int) (M : Int) (hM : lastV18 L i = M) :
    Calls Try.prog 28 #[.pointer (some ⟨g, 0, none⟩), .int .i64 i] w fun e w' => e = .returned (.int .i64 M) ∧ w = w' := by
  by_cases hi : 0 ≤ i ∧ i < 32
  · obtain ⟨k, rfl⟩ : ∃ k : Nat, i = k := ⟨i.toNat, by omega⟩
    have c0 := H.cl k (by omega)
    rw [lastV18, if_pos hi, Int.toNat_natCast] at hM
    rw [hM] at c0
    have i0 : (0 : Int) ≤ (k : Int) := by omega
    have i1 : (k : Int) < 32 := by omega
    have i2 : ¬ (31 : Int) < (k : Int) := by omega
    clear H hM hi
    go_enter Try.func28, Try.ntmps28
    go_wp2
    go_returns
    exact ⟨rfl, rfl⟩
  · rw [lastV18, if_neg hi] at hM
    subst hM
    by_cases h1 : i < 0
    · clear hi H
      go_enter Try.func28, Try.ntmps28
      go_wp2
      go_returns
      exact ⟨rfl, rfl⟩
    · have h2 : 31 < i := by omega
      have h3 : 0 ≤ i := by omega
      clear hi h1 H
      go_enter Try.func28, Try.ntmps28
      go_wp2
      go_returns
      exact ⟨rfl, rfl⟩

/-! ### Seq -/
def seqV (L : List ReqV) (c : Int) : Int := if 0 ≤ c ∧ c < 4 then seqL L c.toNat else 0
theorem seqL_last {L : List ReqV} {c : Nat} {m : Nat} (h : (clN L c).length = m + 1) : ∃ k, k < L.length ∧ (clN L c)[m]? = some k ∧ seqL L c = (atL L k).seq ∧ (placesL L c)[m]? = some ((k : Int) + 1) := by
  have hm : m < (clN L c).length := by omega
  refine ⟨(clN L c)[m], (clN_mem.1 (List.getElem_mem hm)).1, by simp [hm], ?_, placesL_get L c m hm⟩
  have : (clN L c).getLast? = some (clN L c)[m] := by
    rw [List.getLast?_eq_getElem?, h]
    simp [hm]
  unfold seqL
  rw [this]
theorem seqL_none {L : List ReqV} {c : Nat} (h : (clN L c).length = 0) : seqL L c = 0 := by
  unfold seqL
  rw [List.eq_nil_of_length_eq_zero h]
  rfl
set_option maxHeartbeats 400000 in
theorem lseq_none (p : Option Addr) (c : Int) (a : Option Addr) (cc : Nat) (w : World) (HO : Hid (Calls Try.prog 79 #[.pointer p, .int .i64 c] w fun e w' => e = .returned (.slice a 0 cc) ∧ w = w')) :
    Calls Try.prog 46 #[.pointer p, .int .i64 c] w fun e w' => e = .returned (.int .i64 0) ∧ Below w.heap.size w w' := by
  go_enter Try.func46, Try.ntmps46
  go_wp2_with fail
  refine HO.out.mono ?_
  rintro e w1 ⟨rfl, rfl⟩
  go_wp2
  go_returns
  exact ⟨rfl, Below.refl _ _⟩
theorem lseq_nil (c : Int) (w : World) : Calls Try.prog 46 #[.pointer none, .int .i64 c] w fun e w' => e = .returned (.int .i64 0) ∧ Below w.heap.size w w' := lseq_none _ _ _ _ _ (lof_nil c w)
set_option maxRecDepth 100000 in
set_option maxHeartbeats 2000000 in
theorem lseq_r {w : World} {n g d : Nat} {vq vr : Value} {vp : Nat → Value} {q : Int} {L : List ReqV} {K : List RcV} (H : Lin w n g d vq vr vp q L K) (hL : L.length ≤ 1000000) (c : Int) (M : Int) (hM : seqV L c = M) :
    Calls Try.prog 46 #[.pointer (some ⟨g, 0, none⟩), .int .i64 c] w fun e w' => e = .returned (.int .i64 M) ∧ Below w.heap.size w w' := by
  by_cases hc : 0 ≤ c ∧ c < 4
  · obtain ⟨k, rfl⟩ : ∃ k : Nat, c = k := ⟨c.toNat, by omega⟩
    have hk4 : k < 4 := by omega
    rw [seqV, if_pos hc, Int.toNat_natCast] at hM
    have HO := Lib.hid (lof_r H k hk4)
    obtain ⟨a, cc, he⟩ := H.plen hk4
    obtain ⟨m, hm⟩ : ∃ m, m = (clN L k).length := ⟨_, rfl⟩
    rw [he, placesL_len, ← hm] at HO
    cases m with
    | zero =>
      rw [seqL_none hm.symm] at hM
      subst hM
      exact lseq_none _ _ _ _ _ HO
    | succ m =>
      obtain ⟨x, hx, _, hs, hp⟩ := seqL_last hm.symm
      rw [hs] at hM
      have hpi : (intCells (placesL L k))[m]? = some (.int .i64 ((x : Int) + 1)) := by simp [intCells, hp]
      obtain ⟨pb, pc, he2, hpc, p0⟩ := (H.pl k hk4).cell m _ hpi
      rw [he] at he2
      simp only [Value.slice.injEq] at he2
      obtain ⟨rfl, hpl, rfl⟩ := he2
      rw [placesL_len, ← hm] at hpc
      have c1 := H.c1
      obtain ⟨qb, qc, rfl, hqc, hreq⟩ := H.req x hx
      have q1 := hreq.2.1
      rw [hM] at q1
      have hml : m < 1000000 := by have := placesL_le L k; rw [placesL_len] at this; omega
      obtain ⟨N, hN⟩ : ∃ N, N = L.length := ⟨_, rfl⟩
      rw [← hN] at c1 hqc hx hL
      have x0 : (0 : Int) ≤ (x : Int) := by omega
      have x1 : (x : Int) < (N : Int) := by omega
      have m0 : (0 : Int) ≤ (m : Int) := by omega
      have m1 : (m : Int) < (m : Int) + 1 := by omega
      clear H he hm hc hk4 hs hp hpi hpl hreq hM hN
      go_enter Try.func46, Try.ntmps46
      go_wp2_with fail
      refine HO.out.mono ?_
      rintro e w1 ⟨rfl, rfl⟩
      have s1 : IntKind.i64.wrap ((m : Int) + 1 - 1) = (m : Int) := by rw [IntKind.wrap_i64]; omega
      have s2 : IntKind.i64.wrap ((x : Int) + 1 - 1) = (x : Int) := by rw [IntKind.wrap_i64]; omega
      go_wp2_with fail
      go_quiet (fail)
      go_wp2
      go_returns
      exact ⟨rfl, drewN_below (Below.refl _ _) _⟩
  · rw [seqV, if_neg hc] at hM
    subst hM
    exact lseq_none _ _ _ _ _ (lof_out g c (by omega) w)

/-! ### Reply -/
set_option maxHeartbeats 1000000 in
theorem lreply_nil (i : Int) (w : World) : Calls Try.prog 22 #[.pointer none, .int .i64 i] w fun e w' => e = .returned (.tuple #[.agg #[.int .i64 0, .int .i64 0, .string ⟨#[]⟩, .slice none 0 0], .int .i64 1]) ∧ Below w.heap.size w w' := by
  have HM := Lib.hid (fun u => lmade_nil u)
  go_enter Try.func22, Try.ntmps22
  go_wp2_with fail
  refine (HM.out _).mono ?_
  rintro e w1 ⟨rfl, rfl⟩
  go_wp2
  go_returns
  exact ⟨rfl, by go_grown⟩
set_option maxHeartbeats 1000000 in
theorem lreply_no {w : World} {n g d : Nat} {vq vr : Value} {vp : Nat → Value} {q : Int} {L : List ReqV} {K : List RcV} (H : Lin w n g d vq vr vp q L K) (i : Int) (hi : i < 1 ∨ K.length < i) :
    Calls Try.prog 22 #[.pointer (some ⟨g, 0, none⟩), .int .i64 i] w fun e w' => e = .returned (.tuple #[.agg #[.int .i64 0, .int .i64 0, .string ⟨#[]⟩, .slice none 0 0], .int .i64 6]) ∧ Below w.heap.size w w' := by
  have HM := Lib.hid (fun o => lmade_r (H.on ((Below.refl _ _).alloc (Nat.le_refl _) o)))
  have HC := Lib.hid (fun o => lcom_r (H.on ((Below.refl _ _).alloc (Nat.le_refl _) o)))
  clear H
  go_enter Try.func22, Try.ntmps22
  go_wp2_with fail
  refine (HM.out _).mono ?_
  rintro e w1 ⟨rfl, rfl⟩
  by_cases h1 : i < 1
  · clear hi
    go_wp2
    go_returns
    exact ⟨rfl, by go_grown⟩
  · have h2 : (K.length : Int) < i := by omega
    have h3 : 1 ≤ i := by omega
    clear hi h1
    go_wp2_with fail
    refine (HC.out _).mono ?_
    rintro e w1 ⟨rfl, rfl⟩
    go_wp2
    go_returns
    exact ⟨rfl, by go_grown⟩
/-- The reply at the place k + 1. -/
def rcV (K : List RcV) (k : Nat) : RcV := K.getD k rc0
theorem Lin.reply {w : World} {n g d : Nat} {vq vr : Value} {vp : Nat → Value} {q : Int} {L : List ReqV} {K : List RcV} (h : Lin w n g d vq vr vp q L K) (k : Nat) (hk : k < K.length) : ∃ b c, vr = .slice (some ⟨b, 0, none⟩) K.length c ∧ K.length ≤ c ∧
    w.cell? ⟨b, k * 4, none⟩ = some (.int .i64 (rcV K k).code) ∧ w.cell? ⟨b, k * 4 + 1, none⟩ = some (.int .i64 (rcV K k).ver) ∧ w.cell? ⟨b, k * 4 + 2, none⟩ = some (.string (rcV K k).data) ∧ w.cell? ⟨b, k * 4 + 3, none⟩ = some (rcV K k).lst := by
  have hg := rcCs_get K k hk
  obtain ⟨b, c, e, hc, c0⟩ := h.reps.cell (k * 4) _ (by have := hg 0 (by omega); rw [Nat.add_zero] at this; exact this)
  have hj : ∀ j x, j < 4 → (rcC (K.getD k rc0))[j]? = some x → w.cell? ⟨b, k * 4 + j, none⟩ = some x := by
    intro j x hj hx
    obtain ⟨b', c', e', _, cj⟩ := h.reps.cell (k * 4 + j) x ((hg j hj).trans hx)
    rw [e] at e'
    simp only [Value.slice.injEq, Option.some.injEq, Addr.mk.injEq] at e'
    obtain ⟨⟨rfl, _, _⟩, _, rfl⟩ := e'
    exact cj
  exact ⟨b, c, e, hc, hj 0 _ (by omega) rfl, hj 1 _ (by omega) rfl, hj 2 _ (by omega) rfl, hj 3 _ (by omega) rfl⟩
set_option maxRecDepth 100000 in
set_option maxHeartbeats 1000000 in
theorem lreply_yes {w : World} {n g d : Nat} {vq vr : Value} {vp : Nat → Value} {q : Int} {L : List ReqV} {K : List RcV} (H : Lin w n g d vq vr vp q L K) (k : Nat) (hk : k < K.length) (hK : K.length ≤ 1000000) :
    Calls Try.prog 22 #[.pointer (some ⟨g, 0, none⟩), .int .i64 ((k : Int) + 1)] w fun e w' => e = .returned (.tuple #[.agg #[.int .i64 (rcV K k).code, .int .i64 (rcV K k).ver, .string (rcV K k).data, (rcV K k).lst], .int .i64 0]) ∧ Below w.heap.size w w' := by
  have HM := Lib.hid (fun o => lmade_r (H.on ((Below.refl _ _).alloc (Nat.le_refl _) o)))
  have HC := Lib.hid (fun o => lcom_r (H.on ((Below.refl _ _).alloc (Nat.le_refl _) o)))
  have c0 := H.cr
  obtain ⟨b, c, rfl, hc, c1, c2, c3, c4⟩ := H.reply k hk
  obtain ⟨la, lc, hl, _⟩ := (H.rep k hk).lst
  have hl' : (rcV K k).lst = .slice la 0 lc := hl
  rw [hl'] at c4 ⊢
  have hlt := H.lt
  have hblt : b < w.heap.size := by
    rcases H.reps.own.2 with ⟨h, _⟩ | ⟨g', cap, cur, h, _, hg, _⟩
    · simp at h
    · simp only [Value.slice.injEq, Option.some.injEq, Addr.mk.injEq] at h
      obtain ⟨⟨rfl, _⟩, _⟩ := h
      exact lt_of_block hg
  generalize rcV K k = r at c1 c2 c3 ⊢
  obtain ⟨cd, vr_, dt, ls⟩ := r
  simp only at c1 c2 c3
  obtain ⟨N, hN⟩ : ∃ N, N = K.length := ⟨_, rfl⟩
  rw [← hN] at c0 hc hk hK HC
  have k0 : (0 : Int) ≤ (k : Int) := by omega
  have k1 : (k : Int) < (N : Int) := by omega
  clear H hl hl' hN
  go_enter Try.func22, Try.ntmps22
  go_wp2_with fail
  refine (HM.out _).mono ?_
  rintro e w1 ⟨rfl, rfl⟩
  go_wp2_with fail
  refine (HC.out _).mono ?_
  rintro e w1 ⟨rfl, rfl⟩
  go_wp2_with fail
  go_returns
  exact ⟨rfl, by go_grown⟩
end Go.Proofs.Ytenjjgghoacboaa
