/-
  THE LOG's ITERATOR over the requests behind a place, by contract. No condition but that a log has at most a million requests.
-/
import Derived.Test.YtenjjgghoacboaaLnR
import Derived.RangeFuncNested
import Derived.RangeFuncBound
import Derived.RangeFuncCalls
import Derived.RangeFuncLeaves
import Derived.RangeFuncBox
import Derived.Shelf.Abstract
import Derived.Shelf.RegionOpen
import Derived.WalkKit
import Derived.OwnWalkIn
import Derived.TacticsInMore
import Derived.LoopNIn
import Derived.LoopIn
import Derived.Maps.AppendAt
import Derived.Sort.QuietIn
namespace Go.Proofs.Ytenjjgghoacboaa
open Go.RowKit Go.Shelf

attribute [local go_sem] Oper.semAt_some

def encQ (r : ReqV) : Array Value := #[r.val]
/-- How many come. -/
def cntQ (L : List ReqV) (n : Nat) (most : Int) : Nat := min (L.length - n) most.toNat
def comeQ (L : List ReqV) (n i : Nat) : List ReqV := (L.drop n).take i
theorem comeQ_len {L : List ReqV} {n i : Nat} (h : n + i ≤ L.length) : (comeQ L n i).length = i := by
  unfold comeQ; rw [List.length_take, List.length_drop]; omega
theorem comeQ_next {L : List ReqV} {n i : Nat} (h : n + i < L.length) : comeQ L n (i + 1) = comeQ L n i ++ [atL L (n + i)] := by
  unfold comeQ
  have hl : i < (L.drop n).length := by rw [List.length_drop]; omega
  rw [List.take_succ_eq_append_getElem hl, atL_lt h, List.getElem_drop]

/-- The iterator's three boxes stand, the row of the requests, and the cell that names it. -/
structure KeepQ (R : Nat) (P : Nat → Prop) (g : Nat) (A C : World) : Prop where
  size : A.heap.size ≤ C.heap.size
  blk : ∀ k, k < A.heap.size → (k = R ∨ k = R + 1 ∨ k = R + 2 ∨ P k) → C.heap[k]? = A.heap[k]?
  c1 : g < A.heap.size → C.cell? ⟨g, 1, none⟩ = A.cell? ⟨g, 1, none⟩
theorem KeepQ.refl (R : Nat) (P : Nat → Prop) (g : Nat) (A : World) : KeepQ R P g A A := ⟨Nat.le_refl _, fun _ _ _ => rfl, fun _ => rfl⟩
theorem KeepQ.trans {R : Nat} {P : Nat → Prop} {g : Nat} {A C D : World} (h : KeepQ R P g A C) (k : KeepQ R P g C D) : KeepQ R P g A D :=
  ⟨Nat.le_trans h.size k.size, fun j hj hp => (k.blk j (Nat.lt_of_lt_of_le hj h.size) hp).trans (h.blk j hj hp), fun hg => (k.c1 (Nat.lt_of_lt_of_le hg h.size)).trans (h.c1 hg)⟩
theorem KeepQ.of {R : Nat} {P : Nat → Prop} {g : Nat} {A C : World} (hP : ∀ k, P k → k < R) (hg : g < R) (h : Below (R + 3) A C) : KeepQ R P g A C :=
  ⟨h.size, fun k _ hp => h.block k (by rcases hp with rfl | rfl | rfl | hp <;> first | omega | (have := hP k hp; omega)), fun _ => h.cell (p := ⟨g, 1, none⟩) (show g < R + 3 by omega)⟩

/-- What the iterator asks of its log, or of none. -/
structure AskQ (Kp : World → World → Prop) (pv : Option Addr) (L : List ReqV) (W : World) : Prop where
  few : L.length ≤ 1000000
  len : ∀ u, Kp W u → Calls Try.prog 15 #[.pointer pv] u fun e w' => e = .returned (.int .i64 L.length) ∧ u = w'
  req : ∀ u k, k < L.length → Kp W u → ∃ g qb qc, pv = some ⟨g, 0, none⟩ ∧ u.cell? ⟨g, 1, none⟩ = some (.slice (some ⟨qb, 0, none⟩) L.length qc) ∧ L.length ≤ qc ∧ ReqCells u qb (k * 6) (atL L k)

set_option maxRecDepth 100000 in
set_option maxHeartbeats 4000000 in
theorem behind1_in (m l R : Nat) (P : Nat → Prop) (g : Nat) (pv : Option Addr) (n : Nat) (most : Int) (L : List ReqV) (J Jx : List ReqV → World → Prop)
    (hY : ∀ pre x W, x ∈ L → J pre W → pre.length < L.length → YieldAt Fence.wide (m - 1) Try.prog l (encQ x) W fun e W' =>
      (e = .returned (.bool true) ∧ J (pre ++ [x]) W' ∧ KeepQ R P g W W') ∨ (e = .returned (.bool false) ∧ Jx (pre ++ [x]) W'))
    (W : World) (hR : R + 3 ≤ W.heap.size) (hg : AskQ (KeepQ R P g) pv L W) (hp : Boxed W R 23 (.pointer pv)) (hq : Boxed W (R + 1) 3 (.int .i64 n)) (hr : Boxed W (R + 2) 3 (.int .i64 most)) (h0 : J [] W) :
    CallsIn Fence.wide m Try.prog 94 #[.func (.yield l) #[] #[], .pointer (some ⟨R + 1, 0, none⟩), .pointer (some ⟨R, 0, none⟩), .pointer (some ⟨R + 2, 0, none⟩)] W fun e W' => (∃ v, e = .returned v) ∧
      ((∃ ys, ys = comeQ L n (cntQ L n most) ∧ J ys W') ∨ (∃ pre, (∃ k, k ≤ cntQ L n most ∧ pre = comeQ L n k) ∧ Jx pre W')) := by
  have hro : Fence.wide.round = none := rfl
  have HG := Lib.hid hg
  have HP := Lib.hid hp
  have HQ := Lib.hid hq
  have HR := Lib.hid hr
  have cq := hq.cell
  have H5 := Lib.hid hg.few
  obtain ⟨M, hM⟩ : ∃ M, cntQ L n most = M := ⟨_, rfl⟩
  have HMM := Lib.hid hM
  have hMn : M = 0 ∨ n + M ≤ L.length := by rw [← hM]; unfold cntQ; omega
  have hM0 : ∀ i, i < M → (i : Int) < most := by intro i hi; rw [← hM] at hi; unfold cntQ at hi; omega
  have hM1 : M = 0 ∨ n + M = L.length ∨ (M : Int) = most := by rw [← hM]; unfold cntQ; omega
  have hM2 : M = 0 → L.length ≤ n ∨ most ≤ 0 := by intro h; rw [← hM] at h; unfold cntQ at h; omega
  rw [hM]
  clear hg hp hq hr hM
  have HMN := Lib.hid hMn
  have HM0 := Lib.hid hM0
  have HM1 := Lib.hid hM1
  have HM2 := Lib.hid hM2
  clear hMn hM0 hM1 hM2
  refine callsIn_of_wp Try.func94 rfl trivial ?_ hro
  simp only [Try.ntmps94, List.size_toArray, List.length_cons, List.length_nil, Nat.reduceAdd, Nat.reduceSub, Array.replicate_succ, Array.replicate_zero, List.push_toArray, List.append_toArray, List.nil_append, List.cons_append]
  gi_wp2
  clear cq
  gi_loopw [5] (fun s5 wr => ∃ i : Nat, i ≤ M ∧ s5 = .int .i64 ((n : Int) + (i : Int)) ∧ J (comeQ L n i) wr ∧ KeepQ R P g W wr)
    (fun s5 _ => M + n - (intOf s5).toNat)
  case atStart => exact ⟨0, Nat.zero_le _, by simp, h0, KeepQ.refl _ _ _ _⟩
  case round =>
    obtain ⟨i, hi, rfl, hJs, hnx⟩ := hrel
    have hsz := hnx.size
    have HLEN : Hid (CallsIn Fence.wide (m - 1) Try.prog 15 #[.pointer pv] wr fun e w' => e = .returned (.int .i64 L.length) ∧ wr = w') := callsIn_wide.2 (HG.out.len wr hnx)
    have cp : wr.cell? ⟨R, 0, none⟩ = some (.pointer pv) := (World.cell?_of_block (a := ⟨R, 0, none⟩) (hnx.blk R (by omega) (.inl rfl))).trans HP.out.cell
    have cq : wr.cell? ⟨R + 1, 0, none⟩ = some (.int .i64 n) := (World.cell?_of_block (a := ⟨R + 1, 0, none⟩) (hnx.blk (R + 1) (by omega) (.inr (.inl rfl)))).trans HQ.out.cell
    have cr : wr.cell? ⟨R + 2, 0, none⟩ = some (.int .i64 most) := (World.cell?_of_block (a := ⟨R + 2, 0, none⟩) (hnx.blk (R + 2) (by omega) (.inr (.inr (.inl rfl))))).trans HR.out.cell
    have HK := Lib.hid hnx
    have few := H5.out
    by_cases hlt : i < M
    · have hin : n + i < L.length := by rcases HMN.out with h | h <;> omega
      have him := HM0.out i hlt
      have HY := Lib.hid (hY _ (atL L (n + i)) wr (by rw [atL_lt hin]; exact List.getElem_mem hin) hJs (by rw [comeQ_len (by omega)]; omega))
      have HE := Lib.hid (comeQ_next hin)
      obtain ⟨g', qb, qc, rfl, c1, hqc, hreq⟩ := HG.out.req wr (n + i) hin hnx
      obtain ⟨r, hr0⟩ : ∃ r, atL L (n + i) = r := ⟨_, rfl⟩
      rw [hr0] at HY HE hreq
      obtain ⟨q0, q1, q2, q3, q4, q5⟩ := hreq
      obtain ⟨k, hk⟩ : ∃ k, k = n + i := ⟨_, rfl⟩
      rw [← hk] at q0 q1 q2 q3 q4 q5 hin
      have hnk : (n : Int) + (i : Int) = (k : Int) := by omega
      rw [hnk]
      have HNK := Lib.hid hnk
      have HKK := Lib.hid hk
      clear hr0
      have he : encQ r = #[.agg #[.int .i64 r.client, .int .i64 r.seq, .int .i64 r.kind, .int .i64 r.id, .int .i64 r.mtch, .string r.data]] := rfl
      rw [he] at HY
      obtain ⟨N, hN⟩ : ∃ N, N = L.length := ⟨_, rfl⟩
      rw [← hN] at HLEN c1 hqc hin few
      have HNN := Lib.hid hN
      have k0 : (0 : Int) ≤ (k : Int) := by omega
      have k1 : (k : Int) < (N : Int) := by omega
      have k2 : (n : Int) ≤ (k : Int) := by omega
      have k3 : (k : Int) - (n : Int) < most := by omega
      obtain ⟨fn, tmps, assign, body, hy, hRR⟩ := HY.out
      clear he hN hnx hk hnk hY HY him
      gi_wp2_with (first
        | (refine ⟨trivial, (fun h => by cases h), ?_⟩; refine HLEN.out.mono ?_; rintro e w1 ⟨rfl, rfl⟩)
        | (refine ⟨(fun h => by cases h), ?_⟩; refine hRR.mono ?_; rintro e w2 (⟨rfl, hj, hk2⟩ | ⟨rfl, hj⟩)))
      · go_roundw
        case rel => exact ⟨i + 1, by omega, by rw [← HNK.out]; congr 1, by rw [HE.out]; exact hj, HK.out.trans hk2⟩
        case measure => have := HNK.out; simp [intOf]; omega
      · refine bodyPost_ret (results_none rfl _ _ _) rfl ?_
        exact ⟨⟨_, rfl⟩, .inr ⟨_, ⟨i + 1, by omega, HE.out.symm⟩, hj⟩⟩
    · obtain rfl : i = M := by omega
      by_cases hend : n + i < L.length
      · have him : most ≤ (i : Int) := by
          rcases HM1.out with h | h | h
          · rcases HM2.out h with h2 | h2 <;> omega
          · omega
          · omega
        obtain ⟨N, hN⟩ : ∃ N, N = L.length := ⟨_, rfl⟩
        rw [← hN] at HLEN few hend
        obtain ⟨k, hk⟩ : ∃ k, k = n + i := ⟨_, rfl⟩
        have hnk : (n : Int) + (i : Int) = (k : Int) := by omega
        rw [hnk]
        have k1 : (k : Int) < (N : Int) := by omega
        have k2 : (n : Int) ≤ (k : Int) := by omega
        have k3 : ¬ (k : Int) - (n : Int) < most := by omega
        clear hN hnx hk hnk hY him hend hlt
        gi_wp2_with (refine ⟨trivial, (fun h => by cases h), ?_⟩; refine HLEN.out.mono ?_; rintro e w1 ⟨rfl, rfl⟩)
        go_end0
        exact ⟨⟨_, rfl⟩, .inl ⟨_, rfl, hJs⟩⟩
      · obtain ⟨N, hN⟩ : ∃ N, N = L.length := ⟨_, rfl⟩
        rw [← hN] at HLEN few hend
        obtain ⟨k, hk⟩ : ∃ k, k = n + i := ⟨_, rfl⟩
        have hnk : (n : Int) + (i : Int) = (k : Int) := by omega
        rw [hnk]
        have k1 : ¬ (k : Int) < (N : Int) := by omega
        clear hN hnx hk hnk hY hend hlt
        gi_wp2_with (refine ⟨trivial, (fun h => by cases h), ?_⟩; refine HLEN.out.mono ?_; rintro e w1 ⟨rfl, rfl⟩)
        go_end0
        exact ⟨⟨_, rfl⟩, .inl ⟨_, rfl, hJs⟩⟩

theorem behind_stops (m R : Nat) (P : Nat → Prop) (g : Nat) (pv : Option Addr) (n : Nat) (most : Int) (L : List ReqV) (w : World) (hR : R + 3 ≤ w.heap.size) (hg : ∀ u, Below w.heap.size w u → AskQ (KeepQ R P g) pv L u) (hp : Boxed w R 23 (.pointer pv)) (hq : Boxed w (R + 1) 3 (.int .i64 n)) (hr : Boxed w (R + 2) 3 (.int .i64 most)) :
    SeqStopsK Fence.wide m Try.prog 94 #[.pointer (some ⟨R + 1, 0, none⟩), .pointer (some ⟨R, 0, none⟩), .pointer (some ⟨R + 2, 0, none⟩)] encQ (KeepQ R P g) (fun ys => ys = comeQ L n (cntQ L n most)) (fun pre => ∃ k, k ≤ cntQ L n most ∧ pre = comeQ L n k) L.length w := fun l J Jx W hW _ _ hY h0 =>
  behind1_in m l R P g pv n most L J Jx (fun pre x W _ => hY pre x W) W (Nat.le_trans hR hW.size) (hg _ hW) ((hW.block R (by omega)).trans hp) ((hW.block (R + 1) (by omega)).trans hq) ((hW.block (R + 2) (by omega)).trans hr) h0
/-- A request whose text is short. -/
structure RqE where
  r : ReqV
  h : r.data.size ≤ 64
def entE (r : ReqV) : RqE := if h : r.data.size ≤ 64 then ⟨r, h⟩ else ⟨rq0, by decide⟩
theorem entE_r {r : ReqV} (h : r.data.size ≤ 64) : (entE r).r = r := by unfold entE; rw [dif_pos h]
def encE (x : RqE) : Array Value := encQ x.r
theorem entE_map {L : List ReqV} (h : ∀ x ∈ L, x.data.size ≤ 64) : (L.map entE).map (·.r) = L := by
  rw [List.map_map]
  conv => rhs; rw [← List.map_id L]
  exact List.map_congr_left fun x hx => entE_r (h x hx)
theorem behind_stopsE (m R : Nat) (P : Nat → Prop) (g : Nat) (pv : Option Addr) (n : Nat) (most : Int) (L : List ReqV) (h64 : ∀ x ∈ L, x.data.size ≤ 64) (w : World) (hR : R + 3 ≤ w.heap.size) (hg : ∀ u, Below w.heap.size w u → AskQ (KeepQ R P g) pv L u) (hp : Boxed w R 23 (.pointer pv)) (hq : Boxed w (R + 1) 3 (.int .i64 n)) (hr : Boxed w (R + 2) 3 (.int .i64 most)) :
    SeqStopsK Fence.wide m Try.prog 94 #[.pointer (some ⟨R + 1, 0, none⟩), .pointer (some ⟨R, 0, none⟩), .pointer (some ⟨R + 2, 0, none⟩)] encE (KeepQ R P g) (fun ys => ys = (comeQ L n (cntQ L n most)).map entE) (fun _ => True) L.length w := fun l J Jx W hW _ _ hY h0 => by
  have h := behind1_in m l R P g pv n most L (fun pre W => J (pre.map entE) W) (fun pre W => Jx (pre.map entE) W) (fun pre x W hx hj hl => by
      have hy := hY (pre.map entE) (entE x) W hj (by rw [List.length_map]; exact hl)
      rw [show encE (entE x) = encQ x by unfold encE; rw [entE_r (h64 x hx)]] at hy
      rw [List.map_append]
      exact hy) W (Nat.le_trans hR hW.size) (hg _ hW) ((hW.block R (by omega)).trans hp) ((hW.block (R + 1) (by omega)).trans hq) ((hW.block (R + 2) (by omega)).trans hr) h0
  refine h.mono fun e W' ⟨hv, hh⟩ => ⟨hv, ?_⟩
  rcases hh with ⟨ys, rfl, hj⟩ | ⟨pre, _, hj⟩
  · exact .inl ⟨_, rfl, hj⟩
  · exact .inr ⟨_, trivial, hj⟩
set_option maxHeartbeats 400000 in
theorem behind_any (p : Option Addr) (n most : Int) (w : World) : Calls Try.prog 57 #[.pointer p, .int .i64 n, .int .i64 most] w fun e w' => e = .returned (.func (.func 94) #[] #[.pointer (some ⟨w.heap.size + 1, 0, none⟩), .pointer (some ⟨w.heap.size, 0, none⟩), .pointer (some ⟨w.heap.size + 2, 0, none⟩)]) ∧
    w' = ((w.alloc (.cells #[.pointer p] 23)).alloc (.cells #[.int .i64 n] 3)).alloc (.cells #[.int .i64 most] 3) := by
  go_enter Try.func57, Try.ntmps57
  go_wp2
  go_ret
  exact ⟨rfl, rfl⟩
/-- A log gives what its iterator asks. -/
theorem AskQ.of {w : World} {n0 g d : Nat} {vq vr : Value} {vp : Nat → Value} {q : Int} {L : List ReqV} {K : List RcV} (H : Lin w n0 g d vq vr vp q L K) (hL : L.length ≤ 1000000) (R : Nat) : AskQ (KeepQ R (fun k => vq.ownBlock = some k) g) (some ⟨g, 0, none⟩) L w := by
  refine ⟨hL, fun u hu => ?_, fun u k hk hu => ?_⟩
  · have c1 := (hu.c1 H.lt).trans H.c1
    obtain ⟨a, c, rfl⟩ := H.len
    go_enter Try.func15, Try.ntmps15
    go_wp2
    go_returns
    exact ⟨rfl, rfl⟩
  · have c1 := (hu.c1 H.lt).trans H.c1
    obtain ⟨qb, qc, e, hqc, hreq⟩ := H.req k hk
    have hb : vq.ownBlock = some qb := by rw [e]; rfl
    have hlt := (H.row.nb qb hb).lt
    have hk' := hu.blk qb hlt (.inr (.inr (.inr hb)))
    have hc : ∀ o, u.cell? ⟨qb, o, none⟩ = w.cell? ⟨qb, o, none⟩ := fun o => World.cell?_of_block (a := ⟨qb, o, none⟩) hk'
    rw [e] at c1
    exact ⟨g, qb, qc, rfl, c1, hqc, (hc _).trans hreq.1, (hc _).trans hreq.2.1, (hc _).trans hreq.2.2.1, (hc _).trans hreq.2.2.2.1, (hc _).trans hreq.2.2.2.2.1, (hc _).trans hreq.2.2.2.2.2⟩
theorem AskQ.nobody (Kp : World → World → Prop) (w : World) : AskQ Kp none [] w := ⟨Nat.zero_le _, fun u _ => llen_nil u, fun _ _ hk => absurd hk (Nat.not_lt_zero _)⟩
end Go.Proofs.Ytenjjgghoacboaa
