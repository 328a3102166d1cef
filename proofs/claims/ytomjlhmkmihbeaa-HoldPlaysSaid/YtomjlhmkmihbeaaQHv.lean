/-
  THE REFERENCE's LEASE in memory: its block, its row of questions; what they keep. No condition.
-/
import Derived.Test.YtomjlhmkmihbeaaHdT
import Derived.Test.YtomjlhmkmihbeaaAccV
import Derived.Test.YtomjlhmkmihbeaaPackBase
import Derived.Deep.DeepCutAuto
namespace Go.Proofs.Ytomjlhmkmihbeaa
open Go.RowKit

/-- A question of the reference's as plain data, and where its row lies. -/
structure RQ where
  id : Int
  at_ : Int
  ep : Int
  v : Value
  told : List Int
def rqC (q : RQ) : List Value := [.int .i64 q.id, .int .i64 q.at_, .int .i64 q.ep, q.v]
def rqs : List RQ → List Value
  | [] => []
  | q :: l => rqC q ++ rqs l
theorem rqs_len : ∀ l : List RQ, (rqs l).length = l.length * 4
  | [] => rfl
  | q :: l => by
    show (rqC q ++ rqs l).length = (l.length + 1) * 4
    rw [List.length_append, rqs_len l]
    show 4 + l.length * 4 = _
    omega
theorem rqs_app : ∀ l m : List RQ, rqs (l ++ m) = rqs l ++ rqs m
  | [], _ => rfl
  | q :: l, m => by
    show rqC q ++ rqs (l ++ m) = (rqC q ++ rqs l) ++ rqs m
    rw [rqs_app l m, List.append_assoc]
theorem rqs_get : ∀ (l : List RQ) (k : Nat) (hk : k < l.length) (j : Nat), j < 4 → (rqs l)[k * 4 + j]? = (rqC l[k])[j]?
  | [], k, hk, _, _ => by simp at hk
  | q :: l, 0, _, j, hj => by
    show (rqC q ++ rqs l)[0 * 4 + j]? = (rqC q)[j]?
    rw [Nat.zero_mul, Nat.zero_add, List.getElem?_append_left (by show j < 4; exact hj)]
  | q :: l, k + 1, hk, j, hj => by
    show (rqC q ++ rqs l)[(k + 1) * 4 + j]? = (rqC (l[k]'(by simpa using hk)))[j]?
    rw [List.getElem?_append_right (by show 4 ≤ _; omega), show (k + 1) * 4 + j - (rqC q).length = k * 4 + j by show (k + 1) * 4 + j - 4 = _; omega]
    exact rqs_get l k (by simpa using hk) j hj
theorem rqs_drop (q : RQ) (l : List RQ) (j : Nat) : (rqs l)[j]? = (rqs (q :: l))[4 + j]? := by
  show _ = (rqC q ++ rqs l)[4 + j]?
  rw [List.getElem?_append_right (by show 4 ≤ _; omega)]
  congr 1
  show j = 4 + j - 4
  omega

/-- The slice value sv holds the questions L, in a block from n0 on. -/
def QRow (u : World) (n0 : Nat) (sv : Value) (L : List RQ) : Prop :=
  (L = [] ∧ sv = .slice none 0 0) ∨ ∃ g off cap cur, sv = .slice (some ⟨g, off, none⟩) L.length cap ∧ n0 ≤ g ∧ L.length ≤ cap ∧ cap ≤ maxLen ∧ u.heap[g]? = some (.cells cur 77 (0, 0)) ∧ ∀ j x, (rqs L)[j]? = some x → cur[off + j]? = some x
/-- Block rb is the reference's lease of N nodes, of which there were r questions. -/
structure RHd (u : World) (n0 rb N r : Nat) (sv : Value) (L : List RQ) : Prop where
  blk : u.heap[rb]? = some (.cells #[.int .i64 N, .int .i64 r, sv] 34 (0, 0))
  row : QRow u n0 sv L
  tl : ∀ q ∈ L, RowI u q.v q.told
  low : n0 ≤ rb
section
variable {u u' : World} {n0 rb N r : Nat} {sv : Value} {L : List RQ}
theorem QRow.keep (h : QRow u n0 sv L) (hk : ∀ (g : Nat) (cs : Array Value), u.heap[g]? = some (Obj.cells cs 77 (0, 0)) → u'.heap[g]? = some (Obj.cells cs 77 (0, 0))) : QRow u' n0 sv L := by
  rcases h with h | ⟨g, off, cap, cur, h1, h2, h3, h4, h5, h6⟩
  · exact .inl h
  · exact .inr ⟨g, off, cap, cur, h1, h2, h3, h4, hk _ _ h5, h6⟩
theorem QRow.on (h : QRow u n0 sv L) (hb : Below u.heap.size u u') : QRow u' n0 sv L := QRow.keep h fun g _ hg => (hb.block g (lt_of_block hg)).trans hg
theorem QRow.shape (h : QRow u n0 sv L) : ∃ a c, sv = .slice a L.length c := by
  rcases h with ⟨rfl, rfl⟩ | ⟨g, off, cap, cur, rfl, _⟩
  · exact ⟨_, _, rfl⟩
  · exact ⟨_, _, rfl⟩
theorem QRow.some_ (h : QRow u n0 sv L) (h0 : 0 < L.length) : ∃ g off cap, sv = .slice (some ⟨g, off, none⟩) L.length cap ∧ n0 ≤ g ∧ g < u.heap.size ∧ (∃ cs, u.heap[g]? = some (.cells cs 77 (0, 0))) ∧ ∀ k (hk : k < L.length), (u.cell? ⟨g, off + k * 4, none⟩ = some (.int .i64 L[k].id) ∧ u.cell? ⟨g, off + k * 4 + 1, none⟩ = some (.int .i64 L[k].at_) ∧ u.cell? ⟨g, off + k * 4 + 2, none⟩ = some (.int .i64 L[k].ep) ∧ u.cell? ⟨g, off + k * 4 + 3, none⟩ = some L[k].v) ∧ ∀ j, u.frozen? ⟨g, j, none⟩ = false := by
  rcases h with ⟨rfl, _⟩ | ⟨g, off, cap, cur, h1, h2, h3, h4, h5, h6⟩
  · simp at h0
  · refine ⟨g, off, cap, h1, h2, lt_of_block h5, ⟨_, h5⟩, fun k hk => ⟨?_, fun j => by simp [World.frozen?, h5]⟩⟩
    have c := fun j (hj : j < 4) x (hx : (rqC L[k])[j]? = some x) => h6 (k * 4 + j) x (by rw [rqs_get L k hk j hj]; exact hx)
    refine ⟨?_, ?_, ?_, ?_⟩
    · rw [cell_of_row _ _ _ _ _ _ h5]; exact c 0 (by decide) _ rfl
    · rw [cell_of_row _ _ _ _ _ _ h5, Nat.add_assoc]; exact c 1 (by decide) _ rfl
    · rw [cell_of_row _ _ _ _ _ _ h5, Nat.add_assoc]; exact c 2 (by decide) _ rfl
    · rw [cell_of_row _ _ _ _ _ _ h5, Nat.add_assoc]; exact c 3 (by decide) _ rfl
theorem QRow.src (h : QRow u n0 sv L) (ht : ∀ q ∈ L, RowI u q.v q.told) : Src Try.prog 4 32 sv L.length (rqs L) u := by
  rcases h with ⟨rfl, rfl⟩ | ⟨g, off, cap, cur, rfl, h2, h3, h4, h5, h6⟩
  · exact Src.ofNil _ Try.underlying32 0
  · refine Src.ofSlice _ Try.underlying32 ⟨g, off, none⟩ L.length cap (rqs L) (rqs_len L) (fun j x hx => ?_) ?_
    · rw [Addr.add_lit, cell_of_row _ _ _ _ _ _ h5]
      exact h6 j x hx
    · clear h6 h3
      intro x hx
      induction L with
      | nil => cases hx
      | cons q l ih =>
        rcases List.mem_append.1 (show x ∈ rqC q ++ rqs l from hx) with h | h
        · simp only [rqC, List.mem_cons, List.not_mem_nil, or_false] at h
          obtain ⟨a, c, hv⟩ := (ht q (by simp)).shape
          rcases h with rfl | rfl | rfl | rfl
          · rfl
          · rfl
          · rfl
          · rw [hv]; rfl
        · exact ih (fun q' hq' => ht q' (by simp [hq'])) h
theorem RHd.lt (h : RHd u n0 rb N r sv L) : rb < u.heap.size := lt_of_block h.blk
theorem RHd.cells (h : RHd u n0 rb N r sv L) : (u.cell? ⟨rb, 0, none⟩ = some (.int .i64 N) ∧ u.cell? ⟨rb, 1, none⟩ = some (.int .i64 r) ∧ u.cell? ⟨rb, 2, none⟩ = some sv) ∧ u.frozen? ⟨rb, 1, none⟩ = false ∧ u.frozen? ⟨rb, 2, none⟩ = false := by
  have H' := h.blk
  refine ⟨⟨?_, ?_, ?_⟩, ?_, ?_⟩
  · rw [cell_of_row _ _ _ _ _ _ H']; rfl
  · rw [cell_of_row _ _ _ _ _ _ H']; rfl
  · rw [cell_of_row _ _ _ _ _ _ H']; rfl
  · simp [World.frozen?, H']
  · simp [World.frozen?, H']
theorem RHd.on (h : RHd u n0 rb N r sv L) (hb : Below u.heap.size u u') : RHd u' n0 rb N r sv L :=
  ⟨(hb.block rb h.lt).trans h.blk, QRow.on h.row hb, fun q hq => (h.tl q hq).on hb, h.low⟩
theorem RHd.beside (h : RHd u n0 rb N r sv L) (hk : KHd u u') : RHd u' n0 rb N r sv L := by
  refine ⟨hk.same _ _ _ h.blk (by decide), QRow.keep h.row fun g cs hg => hk.same g cs _ hg (by decide), fun q hq => ?_, h.low⟩
  obtain ⟨ao, cap, e, h1, h2, h3, h4⟩ := h.tl q hq
  refine ⟨ao, cap, e, h1, h2, h3, fun hl => ?_⟩
  obtain ⟨b, off, cs, rfl, hb, hc⟩ := h4 hl
  have e := hk.same b cs _ hb (by decide)
  exact ⟨b, off, cs, rfl, e, fun j hj => (World.cell?_of_block (a := ⟨b, off + j, Option.none⟩) (e.trans hb.symm)).trans (hc j hj)⟩
end
theorem info_Q : (Try.prog.info? 77).map (fun i => (i.zero, i.size, i.bytes)) = some (some (.agg #[.int .i64 0, .int .i64 0, .int .i64 0, .slice none 0 0]), 4, 48) := by kernel_rfl
theorem info_intQ : (Try.prog.info? 3).map (fun i => (i.zero, i.size, i.bytes)) = some (some (.int .i64 0), 1, 8) := by kernel_rfl

/-! ### Ask, refused -/
/-- May the question be asked, by the reference? -/
def askR (L : List RQ) (t ep : Int) : Bool := decide ((0 ≤ t ∧ t ≤ 1099511627776) ∧ (1 ≤ ep ∧ ep ≤ 1073741824) ∧ ∀ q, L.getLast? = some q → q.at_ ≤ t)
theorem last_at {L : List RQ} {k : Nat} (h : L.length = k + 1) : L.getLast? = some (L[k]'(by omega)) := by
  rw [List.getLast?_eq_getElem?]
  have e : L.length - 1 = k := by omega
  rw [e, List.getElem?_eq_getElem]

set_option maxRecDepth 100000 in
set_option maxHeartbeats 1000000 in
theorem qhask_no {w : World} {n0 rb N r : Nat} {sv : Value} {L : List RQ} (H : RHd w n0 rb N r sv L) (hl : L.length ≤ 4) (t ep : Int) (h : askR L t ep = false) :
    Calls Try.prog 17 #[.pointer (some ⟨rb, 0, none⟩), .int .i64 t, .int .i64 ep] w fun e w' => e = .returned (.int .i64 (-1)) ∧ Below w.heap.size w w' := by
  have h' := of_decide_eq_false h
  by_cases t0 : t < 0
  · have d0 : decide (t < 0) = true := decide_eq_true t0
    clear h h' H
    go_enter Try.func17, Try.ntmps17
    go_wp2_with fail
    refine region_quiet (fun v => Below w.heap.size w v) (by kernel_rfl) (by kernel_rfl) (Below.refl w.heap.size w).drew ?_
    repeat (first
      | go_big_quiet_skip
      | (go_big_quiet_want
         (refine quiet_run (v := ?_) ?_ ?_; rotate_left; (intro u hu; go_simp <;> with_reducible rfl); simp only [Act.put, List.setIfInBounds_toArray, List.set_cons_zero, List.set_cons_succ]; go_big_quiet_on)))
    refine wpQuiet_nil ?_
    intro w4 h4
    go_wp2
    go_returns
    exact ⟨rfl, h4⟩
  · have d0 : decide (t < 0) = false := decide_eq_false t0
    by_cases t1 : 1099511627776 < t
    · have d1 : decide (1099511627776 < t) = true := decide_eq_true t1
      clear h h' H
      go_enter Try.func17, Try.ntmps17
      go_wp2_with fail
      refine region_quiet (fun v => Below w.heap.size w v) (by kernel_rfl) (by kernel_rfl) (Below.refl w.heap.size w).drew ?_
      repeat (first
        | go_big_quiet_skip
        | (go_big_quiet_want
           (refine quiet_run (v := ?_) ?_ ?_; rotate_left; (intro u hu; go_simp <;> with_reducible rfl); simp only [Act.put, List.setIfInBounds_toArray, List.set_cons_zero, List.set_cons_succ]; go_big_quiet_on)))
      refine wpQuiet_nil ?_
      intro w4 h4
      go_wp2
      go_returns
      exact ⟨rfl, h4⟩
    · have d1 : decide (1099511627776 < t) = false := decide_eq_false t1
      by_cases e0 : ep < 1
      · have d2 : decide (ep < 1) = true := decide_eq_true e0
        clear h h' H
        go_enter Try.func17, Try.ntmps17
        go_wp2_with fail
        refine region_quiet (fun v => Below w.heap.size w v) (by kernel_rfl) (by kernel_rfl) (Below.refl w.heap.size w).drew ?_
        repeat (first
          | go_big_quiet_skip
          | (go_big_quiet_want
             (refine quiet_run (v := ?_) ?_ ?_; rotate_left; (intro u hu; go_simp <;> with_reducible rfl); simp only [Act.put, List.setIfInBounds_toArray, List.set_cons_zero, List.set_cons_succ]; go_big_quiet_on)))
        refine wpQuiet_nil ?_
        intro w4 h4
        go_wp2
        go_returns
        exact ⟨rfl, h4⟩
      · have d2 : decide (ep < 1) = false := decide_eq_false e0
        by_cases e1 : 1073741824 < ep
        · have d3 : decide (1073741824 < ep) = true := decide_eq_true e1
          clear h h' H
          go_enter Try.func17, Try.ntmps17
          go_wp2_with fail
          refine region_quiet (fun v => Below w.heap.size w v) (by kernel_rfl) (by kernel_rfl) (Below.refl w.heap.size w).drew ?_
          repeat (first
            | go_big_quiet_skip
            | (go_big_quiet_want
               (refine quiet_run (v := ?_) ?_ ?_; rotate_left; (intro u hu; go_simp <;> with_reducible rfl); simp only [Act.put, List.setIfInBounds_toArray, List.set_cons_zero, List.set_cons_succ]; go_big_quiet_on)))
          refine wpQuiet_nil ?_
          intro w4 h4
          go_wp2
          go_returns
          exact ⟨rfl, h4⟩
        · have d3 : decide (1073741824 < ep) = false := decide_eq_false e1
          have h0 : L ≠ [] := fun h0 => h' ⟨by omega, by omega, fun q hq => by rw [h0] at hq; cases hq⟩
          obtain ⟨k, hk⟩ : ∃ k, L.length = k + 1 := ⟨L.length - 1, by have := List.length_pos_iff.2 h0; omega⟩
          have hl' : ¬ (L[k]'(by omega)).at_ ≤ t := fun h1 => h' ⟨by omega, by omega, fun q hq => by rw [last_at hk] at hq; cases hq; exact h1⟩
          obtain ⟨g, off, cap, rfl, _, hg, _, hc⟩ := QRow.some_ H.row (by omega)
          have a1 := (hc k (by omega)).1.2.1
          have c2 := H.cells.1.2.2
          rw [hk] at c2
          generalize (L[k]'(by omega)).at_ = x at a1 hl'
          have hx : t < x := by omega
          have d4 : decide (t < x) = true := decide_eq_true hx
          have FX : Hid (∀ u, Below w.heap.size w u → u.cell? ⟨rb, 2, none⟩ = some (.slice (some ⟨g, off, none⟩) (k + 1) cap) ∧ u.cell? ⟨g, off + k * 4 + 1, none⟩ = some (.int .i64 x)) := fun u hu =>
            ⟨(hu.cell (p := ⟨rb, 2, none⟩) H.lt).trans c2, (hu.cell (p := ⟨g, off + k * 4 + 1, none⟩) hg).trans a1⟩
          have k3 : k ≤ 3 := by omega
          have k0 : (0 : Int) ≤ (k : Int) := by omega
          have k1 : (0 : Int) < (k : Int) + 1 := by omega
          have k2 : (k : Int) < (k : Int) + 1 := by omega
          have s1 : IntKind.i64.wrap (k : Int) = (k : Int) := by rw [IntKind.wrap_i64]; omega
          clear h h' H hc h0 hl' hk hl hg c2 a1
          go_enter Try.func17, Try.ntmps17
          go_wp2_with fail
          refine region_quiet (fun v => Below w.heap.size w v) (by kernel_rfl) (by kernel_rfl) (Below.refl w.heap.size w).drew ?_
          repeat (first
            | go_big_quiet_skip
            | (go_big_quiet_want
               (refine quiet_run (v := ?_) ?_ ?_; rotate_left; (intro u hu; obtain ⟨c2, a1⟩ := FX.out u hu; go_simp <;> with_reducible rfl); simp only [Act.put, List.setIfInBounds_toArray, List.set_cons_zero, List.set_cons_succ]; go_big_quiet_on)))
          refine wpQuiet_nil ?_
          intro w4 h4
          go_wp2
          go_returns
          exact ⟨rfl, h4⟩
end Go.Proofs.Ytomjlhmkmihbeaa
