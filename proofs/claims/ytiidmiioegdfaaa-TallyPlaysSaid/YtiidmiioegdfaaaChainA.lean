/-
  THE PROGRAM's CHAIN: its order, its asks. Merged by gen/cat.sh.
-/
import Derived.Test.YtiidmiioegdfaaaItemC
import Derived.Test.YtiidmiioegdfaaaPackBase
import Derived.Laws.EntriesVeiled
/-! ## ChainV -/
/-
  CHAINS AS PLAIN DATA: who stands where, which one may follow, what is left without some. No condition.
-/
namespace Go.Proofs.Ytiidmiioegdfaaa

/-- Who stands at a place; -1: nobody. -/
def chAt (L : List Int) (k : Int) : Int := if 0 ≤ k ∧ k < L.length then L.getD k.toNat 0 else -1
theorem chAt_in {L : List Int} {k : Nat} (h : k < L.length) : chAt L (k : Int) = L.getD k 0 := by
  unfold chAt
  rw [if_pos (by omega)]
  simp
theorem chAt_out {L : List Int} {k : Int} (h : k < 0 ∨ (L.length : Int) ≤ k) : chAt L k = -1 := by
  unfold chAt
  rw [if_neg (by omega)]
theorem chGet_mem {L : List Int} {k : Nat} (h : k < L.length) : L.getD k 0 ∈ L := by
  rw [show L.getD k 0 = L[k] by simp [List.getD, h]]
  exact List.getElem_mem h
theorem split_get {L : List Int} {k : Nat} (h : k < L.length) : L = L.take k ++ L.getD k 0 :: L.drop (k + 1) := by
  conv => lhs; rw [← List.take_append_drop k L]
  rw [List.drop_eq_getElem_cons h]
  simp [List.getD, h]
theorem mem_getD {L : List Int} {x : Int} (h : x ∈ L) : L.idxOf x < L.length ∧ L.getD (L.idxOf x) 0 = x := by
  have h1 := List.idxOf_lt_length_iff.2 h
  refine ⟨h1, ?_⟩
  rw [show L.getD (L.idxOf x) 0 = L[L.idxOf x] by simp [List.getD, h1]]
  exact List.getElem_idxOf h1

theorem idx_ne {x y : Int} (l : List Int) (h : y ≠ x) : (y :: l).idxOf x = l.idxOf x + 1 := by
  rw [List.idxOf_cons, beq_eq_false_iff_ne.2 h]
  rfl
/-- Where a node stands, the first time; -1. -/
def plcV (L : List Int) (x : Int) : Int := if x ∈ L then (L.idxOf x : Int) else -1
/-- Who stands ahead of it, behind it; -1: nobody. -/
def abvV (L : List Int) (x : Int) : Int := if x ∈ L then chAt L ((L.idxOf x : Int) - 1) else -1
def blwV (L : List Int) (x : Int) : Int := if x ∈ L then chAt L ((L.idxOf x : Int) + 1) else -1

theorem idx_first {L : List Int} {k : Nat} {x : Int} (hk : k < L.length) (hx : L.getD k 0 = x) (hn : x ∉ L.take k) : x ∈ L ∧ L.idxOf x = k := by
  have e := split_get hk
  rw [hx] at e
  refine ⟨by rw [e]; simp, ?_⟩
  conv => lhs; rw [e]
  rw [List.idxOf_append, if_neg hn]
  simp
  omega
theorem not_first {L : List Int} {k : Nat} {x : Int} (hk : L.length ≤ k) (hn : x ∉ L.take k) : x ∉ L := by
  rwa [List.take_of_length_le hk] at hn
theorem not_take {L : List Int} {k : Nat} {x : Int} (hk : k < L.length) (hn : x ∉ L.take k) (hx : L.getD k 0 ≠ x) : x ∉ L.take (k + 1) := by
  rw [take_snoc L k hk, List.mem_append, List.mem_singleton]
  rintro (h | h)
  · exact hn h
  · exact hx h.symm
theorem nodup_first {L : List Int} (hL : L.Nodup) {k : Nat} (hk : k < L.length) : L.idxOf (L.getD k 0) = k := by
  refine (idx_first hk rfl fun h => ?_).2
  have e := split_get hk
  have hL' := hL
  rw [e, List.nodup_append] at hL'
  exact hL'.2.2 _ h _ (List.mem_cons_self) rfl

theorem not_take_idx {L : List Int} {x : Int} : x ∉ L.take (L.idxOf x) := fun h => by
  have e := List.take_append_drop (L.idxOf x) L
  have h1 : (L.take (L.idxOf x) ++ L.drop (L.idxOf x)).idxOf x = (L.take (L.idxOf x)).idxOf x := by rw [List.idxOf_append, if_pos h]
  rw [e] at h1
  have h2 := List.idxOf_lt_length_iff.2 h
  rw [← h1, List.length_take] at h2
  omega
theorem in_drop {L : List Int} {x : Int} (hx : x ∈ L) {p : Nat} (hp : p ≤ L.idxOf x) : x ∈ L.drop p ∧ p + (L.drop p).idxOf x = L.idxOf x := by
  obtain ⟨h1, h2⟩ := mem_getD hx
  have hg : (L.drop p).getD (L.idxOf x - p) 0 = x := by
    rw [List.getD_eq_getElem?_getD, List.getElem?_drop, show p + (L.idxOf x - p) = L.idxOf x by omega, ← List.getD_eq_getElem?_getD]
    exact h2
  have := idx_first (L := L.drop p) (k := L.idxOf x - p) (x := x) (by rw [List.length_drop]; omega) hg (fun h => by
    rw [← List.drop_take] at h
    exact not_take_idx (List.mem_of_mem_drop h))
  exact ⟨this.1, by omega⟩
theorem not_drop {L : List Int} (hL : L.Nodup) {x : Int} (hx : x ∈ L) {p : Nat} (hp : L.idxOf x < p) : x ∉ L.drop p := fun h => by
  have e := List.take_append_drop p L
  rw [← e, List.nodup_append] at hL
  obtain ⟨h1, h2⟩ := mem_getD hx
  refine hL.2.2 x ?_ x h rfl
  rw [List.mem_take_iff_getElem]
  refine ⟨L.idxOf x, by omega, ?_⟩
  exact List.getElem_idxOf h1
/-- Behind what was taken: what may still come is some of what is left. -/
def Con (A S : List Int) (p : Nat) : Prop := ∀ R : List Int, (S ++ R).Sublist A ↔ R.Sublist (A.drop p)
theorem con_nil (A : List Int) : Con A [] 0 := fun R => by simp
theorem greedy (x : Int) (R : List Int) : ∀ (l : List Int), (x :: R).Sublist l ↔ x ∈ l ∧ R.Sublist (l.drop (l.idxOf x + 1))
  | [] => by simp
  | y :: l => by
    by_cases h : y = x
    · subst h
      simp
    · rw [idx_ne _ h, List.drop_succ_cons]
      have ih := greedy x R l
      constructor
      · intro hs
        have : (x :: R).Sublist l := by
          cases hs with
          | cons _ hs => exact hs
          | cons_cons _ hs => exact absurd rfl h
        exact ⟨List.mem_cons_of_mem _ (ih.1 this).1, (ih.1 this).2⟩
      · rintro ⟨hm, hs⟩
        have hm' : x ∈ l := by
          rcases List.mem_cons.1 hm with h' | h'
          · exact absurd h'.symm h
          · exact h'
        exact (ih.2 ⟨hm', hs⟩).cons _
theorem Con.step {A S : List Int} {p : Nat} (h : Con A S p) {x : Int} (hx : x ∈ A.drop p) : Con A (S ++ [x]) (p + ((A.drop p).idxOf x + 1)) := fun R => by
  rw [List.append_assoc, List.singleton_append, h, greedy, List.drop_drop]
  exact ⟨fun h => h.2, fun h => ⟨hx, h⟩⟩
theorem Con.none {A S : List Int} {p : Nat} (h : Con A S p) {x : Int} (hx : x ∉ A.drop p) (R : List Int) : ¬ (S ++ x :: R).Sublist A := fun hs => by
  rw [h, greedy] at hs
  exact hx hs.1
theorem Con.sub {A S : List Int} {p : Nat} (h : Con A S p) : S.Sublist A := by
  have := (h []).2 (List.nil_sublist _)
  simpa using this

/-- b's nodes are some of a's, at least one, in their order, and behind them perhaps one that a has not. -/
def Fol (A B : List Int) : Prop := (B ≠ [] ∧ B.Sublist A) ∨ (2 ≤ B.length ∧ (B.take (B.length - 1)).Sublist A ∧ B.getD (B.length - 1) 0 ∉ A)
instance (A B : List Int) : Decidable (Fol A B) := by unfold Fol; infer_instance
theorem fol_no {A B : List Int} {k p : Nat} {x : Int} (hk : k < B.length) (hx : B.getD k 0 = x) (hc : Con A (B.take k) p) (hn : x ∉ A.drop p) (h : ¬ (0 < k ∧ k + 1 = B.length ∧ x ∉ A)) : ¬ Fol A B := by
  rintro (⟨_, hs⟩ | ⟨h2, hs, hl⟩)
  · have e := split_get hk
    rw [hx] at e
    rw [e] at hs
    exact hc.none hn _ hs
  · by_cases hlt : k + 1 = B.length
    · have : B.length - 1 = k := by omega
      rw [this, hx] at hl
      exact h ⟨by omega, hlt, hl⟩
    · have h1 : (B.take (k + 1)).Sublist (B.take (B.length - 1)) := (List.take_prefix_take_left (by omega)).sublist
      rw [take_snoc B k hk, hx] at h1
      exact hc.none hn [] (h1.trans hs)
theorem fol_all {A B : List Int} {p : Nat} (hB : 0 < B.length) (hc : Con A B p) : Fol A B := .inl ⟨fun h => by rw [h] at hB; simp at hB, hc.sub⟩
theorem fol_new {A B : List Int} {k p : Nat} (hk : 0 < k) (hl : k + 1 = B.length) (hc : Con A (B.take k) p) (hn : B.getD k 0 ∉ A) : Fol A B := by
  refine .inr ⟨by omega, ?_, ?_⟩
  · rw [show B.length - 1 = k by omega]; exact hc.sub
  · rw [show B.length - 1 = k by omega]; exact hn

/-- May b follow a in a cluster of n nodes? -/
def nextC (ea : Int) (A : List Int) (eb : Int) (B : List Int) (n : Int) : Prop :=
  ChainV.may ⟨ea, A⟩ ∧ ChainV.may ⟨eb, B⟩ ∧ (∀ x ∈ A, x < n) ∧ (∀ x ∈ B, x < n) ∧ eb = ea + 1 ∧ Fol A B
instance (ea : Int) (A : List Int) (eb : Int) (B : List Int) (n : Int) : Decidable (nextC ea A eb B n) := by unfold nextC; infer_instance

/-- Two stand in a row one behind the other, so in any row of which it is some. -/
theorem sub_two {u v : Int} : ∀ {A : List Int}, A.Nodup → [u, v].Sublist A → u ∈ A ∧ v ∈ A ∧ A.idxOf u < A.idxOf v
  | [], _, h => by cases h
  | y :: A, hA, h => by
    rw [List.nodup_cons] at hA
    cases h with
    | cons _ h =>
      obtain ⟨h1, h2, h3⟩ := sub_two hA.2 h
      have nu : y ≠ u := fun e => hA.1 (e ▸ h1)
      have nv : y ≠ v := fun e => hA.1 (e ▸ h2)
      rw [idx_ne _ nu, idx_ne _ nv]
      exact ⟨List.mem_cons_of_mem _ h1, List.mem_cons_of_mem _ h2, by omega⟩
    | cons_cons _ h =>
      have hv : v ∈ A := List.singleton_sublist.1 h
      have nv : u ≠ v := fun e => hA.1 (e ▸ hv)
      rw [List.idxOf_cons_self, idx_ne _ nv]
      exact ⟨List.mem_cons_self, List.mem_cons_of_mem _ hv, by omega⟩
theorem chTwo_of {B : List Int} {m : Nat} (h : m + 1 < B.length) : [B.getD m 0, B.getD (m + 1) 0].Sublist B := by
  have e1 := split_get (L := B) (k := m) (by omega)
  have e2 : B.drop (m + 1) = B.getD (m + 1) 0 :: B.drop (m + 2) := by
    rw [List.drop_eq_getElem_cons h]
    simp [List.getD, h]
  rw [e2] at e1
  rw [e1]
  refine List.Sublist.trans ?_ (List.sublist_append_right _ _)
  rw [← e1]
  exact .cons_cons _ (.cons_cons _ (List.nil_sublist _))
/-- Who stays has those above it that it had, or some of them. -/
theorem fol_keeps {A B : List Int} (hF : Fol A B) (hA : A.Nodup) {m0 : Nat} (h0 : m0 < B.length) (hin : B.getD m0 0 ∈ A) {m : Nat} (hm : m + 1 ≤ m0) :
    B.getD m 0 ∈ A ∧ B.getD (m + 1) 0 ∈ A ∧ A.idxOf (B.getD m 0) < A.idxOf (B.getD (m + 1) 0) := by
  have hs : (B.take (m0 + 1)).Sublist A := by
    rcases hF with ⟨_, hs⟩ | ⟨_, hs, hl⟩
    · exact (List.take_sublist _ _).trans hs
    · by_cases he : m0 = B.length - 1
      · rw [he] at hin; exact absurd hin hl
      · exact ((List.take_prefix_take_left (by omega)).sublist).trans hs
  have ht := chTwo_of (B := B.take (m0 + 1)) (m := m) (by rw [List.length_take]; omega)
  have e1 : (B.take (m0 + 1)).getD m 0 = B.getD m 0 := by
    rw [List.getD_eq_getElem?_getD, List.getD_eq_getElem?_getD, List.getElem?_take, if_pos (by omega)]
  have e2 : (B.take (m0 + 1)).getD (m + 1) 0 = B.getD (m + 1) 0 := by
    rw [List.getD_eq_getElem?_getD, List.getD_eq_getElem?_getD, List.getElem?_take, if_pos (by omega)]
  rw [e1, e2] at ht
  exact sub_two hA (ht.trans hs)

/-- Those that are left without some. -/
def leftL (A l : List Int) : List Int := A.filter fun x => !l.contains x
theorem leftL_nil (l : List Int) : leftL [] l = [] := rfl
theorem leftL_snoc_in {A l : List Int} {x : Int} (h : x ∈ l) : leftL (A ++ [x]) l = leftL A l := by simp [leftL, h]
theorem leftL_snoc_out {A l : List Int} {x : Int} (h : x ∉ l) : leftL (A ++ [x]) l = leftL A l ++ [x] := by simp [leftL, h]
theorem leftL_sub (A l : List Int) : (leftL A l).Sublist A := List.filter_sublist
theorem leftL_len (A l : List Int) : (leftL A l).length ≤ A.length := List.length_filter_le _ _
theorem nodesOk_sub {A B : List Int} (h : B.Sublist A) (ha : nodesOk A) : nodesOk B := ⟨fun x hx => ha.1 x (h.subset hx), ha.2.sublist h⟩
theorem leftL_may {ea : Int} {A l : List Int} (h : ChainV.may ⟨ea, A⟩) : ChainV.may ⟨ea + 1, leftL A l⟩ ↔ ea < 1073741824 ∧ leftL A l ≠ [] := by
  obtain ⟨h1, h2, h3, h4, h5⟩ := h
  have hl := leftL_len A l
  have hs := nodesOk_sub (leftL_sub A l) h5
  simp only [ChainV.may] at h1 h2 h3 h4 ⊢
  constructor
  · rintro ⟨_, a, b, _, _⟩
    exact ⟨by omega, fun e => by rw [e] at b; simp at b⟩
  · rintro ⟨a, b⟩
    have := List.length_pos_iff.2 b
    exact ⟨by omega, by omega, by omega, by omega, hs⟩
theorem with_may {ea : Int} {A : List Int} {x : Int} (h : ChainV.may ⟨ea, A⟩) : ChainV.may ⟨ea + 1, A ++ [x]⟩ ↔ ea < 1073741824 ∧ A.length < 5 ∧ 0 ≤ x ∧ x ≤ 4 ∧ x ∉ A := by
  obtain ⟨h1, h2, h3, h4, h5⟩ := h
  simp only [ChainV.may, nodesOk_snoc, List.length_append, List.length_singleton] at h1 h2 h3 h4 ⊢
  constructor
  · rintro ⟨_, a, _, b, _, c, d, e⟩
    exact ⟨by omega, by omega, c, d, e⟩
  · rintro ⟨a, b, c, d, e⟩
    exact ⟨by omega, by omega, by omega, by omega, h5, c, d, e⟩
theorem left_next {ea : Int} {A l : List Int} {n : Int} (h : ChainV.may ⟨ea, A⟩) (hm : ChainV.may ⟨ea + 1, leftL A l⟩) (hn : ∀ x ∈ A, x < n) : nextC ea A (ea + 1) (leftL A l) n :=
  ⟨h, hm, hn, fun x hx => hn x ((leftL_sub A l).subset hx), rfl, .inl ⟨((leftL_may h).1 hm).2, leftL_sub A l⟩⟩
theorem with_next {ea : Int} {A : List Int} {x n : Int} (h : ChainV.may ⟨ea, A⟩) (hm : ChainV.may ⟨ea + 1, A ++ [x]⟩) (hn : ∀ x ∈ A, x < n) (hx : x < n) : nextC ea A (ea + 1) (A ++ [x]) n := by
  refine ⟨h, hm, hn, ?_, rfl, .inr ⟨?_, ?_, ?_⟩⟩
  · intro y hy
    rcases List.mem_append.1 hy with hy | hy
    · exact hn y hy
    · rw [List.mem_singleton.1 hy]; exact hx
  · have := h.2.2.1
    simp only at this
    rw [List.length_append, List.length_singleton]
    omega
  · rw [List.length_append, List.length_singleton, Nat.add_sub_cancel, List.take_left]
    exact List.Sublist.refl _
  · rw [List.length_append, List.length_singleton, Nat.add_sub_cancel, List.getD_eq_getElem?_getD, List.getElem?_append_right (Nat.le_refl _)]
    simpa using ((with_may h).1 hm).2.2.2.2
theorem may_below {ea : Int} {A : List Int} (h : ChainV.may ⟨ea, A⟩) : ∀ x ∈ A, x < 5 := fun x hx => by
  have := h.2.2.2.2.1 x hx
  omega
end Go.Proofs.Ytiidmiioegdfaaa

/-! ## ChainA -/
/-
  THE PROGRAM's at, AND ITS ITERATOR OVER WHO STANDS WHERE, by contract. Of chains of at most a million nodes.
-/
namespace Go.Proofs.Ytiidmiioegdfaaa
open Go.RowKit Go.Shelf

attribute [local go_sem] Oper.semAt_some

set_option maxHeartbeats 1000000 in
theorem chat_r (ep : Int) (v : Value) (L : List Int) (k : Int) (B : Nat) (w : World) (hI : Ints w B v L) (hB : B ≤ w.heap.size) {R : Int} (hR : chAt L k = R) :
    Calls Try.prog 59 #[.agg #[.int .i64 ep, v], .int .i64 k] w fun e w' => e = .returned (.int .i64 R) ∧ Below w.heap.size w w' := by
  obtain ⟨ao, cap, rfl, h1, h2, h3, h4⟩ := hI
  obtain ⟨n, hn⟩ : ∃ n, n = L.length := ⟨_, rfl⟩
  rw [← hn] at h4 ⊢
  by_cases h0 : k < 0
  · have HF : Hid (R = -1) := by show _ = _; rw [← hR]; exact chAt_out (.inl h0)
    clear hR h4
    go_enter Try.func59, Try.ntmps59
    go_wp2
    go_returns
    exact ⟨ret_num HF.out.symm, by go_grown⟩
  · by_cases hk : k < (n : Int)
    · obtain ⟨m, rfl⟩ : ∃ m : Nat, k = m := ⟨k.toNat, by omega⟩
      obtain ⟨b, off, rfl, hbB, hc⟩ := h4 (by intro h; rw [h] at hn; simp at hn; omega)
      have hcell := hc m (by omega)
      rw [← chAt_in (by omega), hR] at hcell
      have hbel : ∀ o, (w.alloc o).cell? ⟨b, off + m, none⟩ = some (.int .i64 R) := fun o => (((Below.refl _ w).alloc (Nat.le_refl _) o).cell (p := ⟨b, off + m, none⟩) (show b < w.heap.size by omega)).trans hcell
      have hcell' := hbel (.cells #[.int .i64 ep, .slice (some ⟨b, off, none⟩) n cap] 26)
      clear hR hc h4 hbel hn hcell
      go_enter Try.func59, Try.ntmps59
      go_wp2
      go_returns
      exact ⟨rfl, by go_grown⟩
    · have HF : Hid (R = -1) := by show _ = _; rw [← hR]; exact chAt_out (.inr (by omega))
      clear hR h4
      go_enter Try.func59, Try.ntmps59
      go_wp2
      go_returns
      exact ⟨ret_num HF.out.symm, by go_grown⟩

/-- Where a node stands: who is above it, it, who is below it. -/
structure SpotV where
  ab : Int
  nd : Int
  bl : Int
def SpotV.val (x : SpotV) : Value := .agg #[.int .i64 x.ab, .int .i64 x.nd, .int .i64 x.bl]
def encSp (x : SpotV) : Array Value := #[x.val]
def spotOf (L : List Int) (k : Nat) : SpotV := ⟨chAt L ((k : Int) - 1), L.getD k 0, chAt L ((k : Int) + 1)⟩
def spotsOf (L : List Int) (k : Nat) : List SpotV := (List.range k).map (spotOf L)
theorem spotsOf_succ (L : List Int) (k : Nat) : spotsOf L (k + 1) = spotsOf L k ++ [spotOf L k] := by simp [spotsOf, List.range_succ]
theorem spotsOf_length (L : List Int) (k : Nat) : (spotsOf L k).length = k := by simp [spotsOf]
/-- What a maker makes, up to a number. -/
def mks {α : Type} (mk : Nat → α) (k : Nat) : List α := (List.range k).map mk
theorem mks_succ {α : Type} (mk : Nat → α) (k : Nat) : mks mk (k + 1) = mks mk k ++ [mk k] := by simp [mks, List.range_succ]
theorem mks_length {α : Type} (mk : Nat → α) (k : Nat) : (mks mk k).length = k := by simp [mks]
theorem spotsOf_nodes (L : List Int) (k : Nat) (hk : k ≤ L.length) : (spotsOf L k).map (·.nd) = L.take k := by
  induction k with
  | zero => simp [spotsOf]
  | succ k ih => rw [spotsOf_succ, List.map_append, ih (by omega), take_snoc L k hk]; rfl

theorem ints_cell {w : World} {B : Nat} {ao : Option Addr} {n cap : Nat} {L : List Int} (h : Ints w B (.slice ao n cap) L) : n = L.length ∧ (∀ k, k < n → ∃ b off, ao = some ⟨b, off, none⟩ ∧ b < B ∧ w.cell? ⟨b, off + k, none⟩ = some (.int .i64 (L.getD k 0))) := by
  obtain ⟨a, c, he, h1, h2, h3, h4⟩ := h
  simp only [Value.slice.injEq] at he
  obtain ⟨rfl, rfl, rfl⟩ := he
  refine ⟨rfl, fun k hk => ?_⟩
  obtain ⟨b, off, rfl, hb, hc⟩ := h4 (fun e => by rw [e] at hk; simp at hk)
  exact ⟨b, off, rfl, hb, hc k hk⟩

theorem anyIn_take {F : Fence} {n : Nat} {P : Program} {ops : Array Oper} {Q : Exit → Act → World → Prop} {md : Region.Mode} {oi : Oper} {fuel : Nat} {listed : Array Bool} {a : Act} {w : World} (i d : Nat) {v : Value} (hro : F.round = none) (hi : ops[i]? = some oi) (hd : oi.dst = some d)
    (hs : Region.noSelect ops = true) (hf : Region.free md ops listed i = true) (hr : (Region.ready md ops listed).contains i = true)
    (hQ : ∀ c a w, Q (.panic c) (a.put oi.dst v) w → Q (.panic c) a w) (hy : YieldsFenced P ops oi v a)
    (h : wpAnyIn F n P md ops Q fuel (listed.setIfInBounds i true) (a.put (some d) v) w) : wpAnyIn F n P md ops Q (fuel + 1) listed a w :=
  wpAnyIn_take hro hi hs hf hr hQ hy (hd ▸ h)

set_option maxRecDepth 100000 in
set_option maxHeartbeats 8000000 in
theorem spots1_g {α : Type} (mk : Nat → α) (encs : α → Array Value) (n : Nat) (l Bs n₀ B : Nat) (ep : Int) (v0 : Value) (w0 : World) (L : List Int) (hlim : L.length ≤ 1000000) (hI : Ints w0 B v0 L) (hBn : B ≤ n₀) (he : ∀ k, k < L.length → encs (mk k) = encSp (spotOf L k)) (J Jx : List α → World → Prop)
    (hY : ∀ pre x W, J pre W → pre.length < L.length → YieldAt Fence.wide (n - 1) Try.prog l (encs x) W fun e W' =>
      (e = .returned (.bool true) ∧ J (pre ++ [x]) W' ∧ KeepB n₀ Bs W W') ∨ (e = .returned (.bool false) ∧ Jx (pre ++ [x]) W'))
    (W : World) (hn₀ : n₀ ≤ W.heap.size) (hJa : AbidesFrom W.heap.size J) (h0W : Below B w0 W) (hbox : ChB W Bs ep v0) (h0 : J [] W) :
    CallsIn Fence.wide n Try.prog 58 #[.func (.yield l) #[] #[], .pointer (some ⟨Bs, 0, none⟩)] W fun e W' => (∃ v, e = .returned v) ∧
      ((∃ ys, ys = mks mk L.length ∧ J ys W') ∨ (∃ pre, (∃ k, k ≤ L.length ∧ pre = mks mk k) ∧ Jx pre W')) := by
  obtain ⟨a0, c0, rfl⟩ : ∃ a c, v0 = .slice a L.length c := by obtain ⟨a, c, h, _⟩ := hI; exact ⟨a, c, h⟩
  obtain ⟨m, hm⟩ : ∃ m, m = L.length := ⟨_, rfl⟩
  rw [← hm] at hlim hI hbox hY ⊢
  have HI := Lib.hid hI
  have HX := Lib.hid hbox
  have HM := Lib.hid hm
  have HE := Lib.hid he
  have hro : Fence.wide.round = none := rfl
  obtain ⟨b0, b1⟩ := hbox.cells
  clear hI hbox hm he
  refine callsIn_of_wp Try.func58 rfl trivial ?_ hro
  simp only [Try.ntmps58, List.size_toArray, List.length_cons, List.length_nil, Nat.reduceAdd, Nat.reduceSub, Array.replicate_succ, Array.replicate_zero, List.push_toArray, List.append_toArray, List.nil_append, List.cons_append]
  gi_wp2
  gi_loopw [8] (fun i wr => ∃ k : Nat, k ≤ m ∧ i = .int .i64 k ∧ J (mks mk k) wr ∧ KeepB n₀ Bs W wr)
    (fun i _ => m - (intOf i).toNat)
  case atStart => exact ⟨0, Nat.zero_le _, rfl, h0, Below.refl _ _, rfl⟩
  case round =>
    obtain ⟨k, hk, rfl, hJs, hnx⟩ := hrel
    by_cases hlt : k < m
    · have hsz := hnx.1.size
      have hcb : ChB wr Bs ep (.slice a0 m c0) := by
        obtain ⟨e, h⟩ := HX.out
        exact ⟨e, hnx.2.trans h⟩
      have hbw : Below B w0 wr := h0W.trans (hnx.1.mono hBn)
      have hIw := HI.out.keep hbw
      obtain ⟨b, off, rfl, hbB, hcell⟩ := (ints_cell hIw).2 k hlt
      have HIw := Lib.hid hIw
      have HK := Lib.hid hnx
      have hBw : B ≤ wr.heap.size := by omega
      have HCB := Lib.hid hcb
      obtain ⟨d0, d1⟩ := hcb.cells
      obtain ⟨x, hx⟩ : ∃ x, x = L.getD k 0 := ⟨_, rfl⟩
      rw [← hx] at hcell
      obtain ⟨p, hp⟩ : ∃ p, p = chAt L ((k : Int) - 1) := ⟨_, rfl⟩
      obtain ⟨q, hq⟩ : ∃ q, q = chAt L ((k : Int) + 1) := ⟨_, rfl⟩
      have hsp : spotOf L k = ⟨p, x, q⟩ := by rw [hp, hx, hq]; rfl
      have HP : Hid (∀ u, Below wr.heap.size wr u → CallsIn Fence.wide (n - 1) Try.prog 59 #[.agg #[.int .i64 ep, .slice (some ⟨b, off, none⟩) m c0], .int .i64 ((k : Int) - 1)] u fun e w' => e = .returned (.int .i64 p) ∧ Below wr.heap.size wr w') := fun u hu =>
        callsIn_wide.2 ((chat_r ep _ L _ B u (HIw.out.keep (hu.mono hBw)) (Nat.le_trans hBw hu.size) hp.symm).mono fun e w' ⟨he, hb⟩ => ⟨he, hu.trans (hb.mono hu.size)⟩)
      have HQ : Hid (∀ u, Below wr.heap.size wr u → CallsIn Fence.wide (n - 1) Try.prog 59 #[.agg #[.int .i64 ep, .slice (some ⟨b, off, none⟩) m c0], .int .i64 ((k : Int) + 1)] u fun e w' => e = .returned (.int .i64 q) ∧ Below wr.heap.size wr w') := fun u hu =>
        callsIn_wide.2 ((chat_r ep _ L _ B u (HIw.out.keep (hu.mono hBw)) (Nat.le_trans hBw hu.size) hq.symm).mono fun e w' ⟨he, hb⟩ => ⟨he, hu.trans (hb.mono hu.size)⟩)
      have HYY : Hid (∀ u, Below wr.heap.size wr u → YieldAt Fence.wide (n - 1) Try.prog l #[.agg #[.int .i64 p, .int .i64 x, .int .i64 q]] u fun e W' =>
          (e = .returned (.bool true) ∧ Hid (J (mks mk (k + 1)) W' ∧ KeepB n₀ Bs W W')) ∨ (e = .returned (.bool false) ∧ Hid (Jx (mks mk (k + 1)) W'))) := fun u hu => by
        have hJ1 : J (mks mk k) u := hJa _ _ _ none hJs ⟨hu.os, hu.tape, hu.output, hu.size, fun k hk _ => hu.block k hk⟩ (fun r e => by cases e)
        have hy := hY _ (mk k) u hJ1 (by rw [mks_length]; exact hlt)
        rw [← mks_succ, HE.out k (by have := HM.out; omega), show encSp (spotOf L k) = #[.agg #[.int .i64 p, .int .i64 x, .int .i64 q]] by rw [hsp]; rfl] at hy
        refine YieldAt.mono hy fun e W' h => ?_
        rcases h with ⟨he, hj, hk⟩ | ⟨he, hj⟩
        · exact .inl ⟨he, hj, (HK.out.trans (.of hu (by omega) HCB.out.lt)).trans hk⟩
        · exact .inr ⟨he, hj⟩
      have DC : Hid (∀ u, Below wr.heap.size wr u → u.cell? ⟨Bs, 0, none⟩ = some (.int .i64 ep) ∧ u.cell? ⟨Bs, 1, none⟩ = some (.slice (some ⟨b, off, none⟩) m c0)) := fun u hu => (HCB.out.keep hu HCB.out.lt).cells
      have B0 : Below wr.heap.size wr wr.drew := (Below.refl _ _).drew
      have s1 : IntKind.i64.wrap ((k : Int) - 1) = (k : Int) - 1 := by rw [IntKind.wrap_i64]; omega
      have s2 : IntKind.i64.wrap ((k : Int) + 1) = (k : Int) + 1 := by rw [IntKind.wrap_i64]; omega
      clear hx hp hq hsp hIw hcb hbw hnx hJs hbB hY hJa h0W h0
      gi_wp2_with fail
      refine wpIn_region_any (by kernel_rfl) ?_
      change wpAnyIn _ _ _ _ _ _ _ _ _ (World.drew _)
      simp only [Array.size, List.length_cons, List.length_nil]
      refine anyIn_take 0 13 (v := .func (.yield l) #[] #[]) rfl rfl rfl (by kernel_rfl) (by kernel_rfl) (by kernel_rfl) (fun _ _ _ h => h) ⟨.inl ⟨by rfl, fun w => ?_⟩, fun w => by rfl⟩ ?_
      · first | (go_simp; done) | (go_simp; with_reducible rfl)
      simp only [Act.put, List.setIfInBounds_toArray, List.set_cons_zero, List.set_cons_succ]
      refine anyIn_take 2 15 (v := .int .i64 k) rfl rfl rfl (by kernel_rfl) (by kernel_rfl) (by kernel_rfl) (fun _ _ _ h => h) ⟨.inl ⟨by rfl, fun w => ?_⟩, fun w => by rfl⟩ ?_
      · first | (go_simp; done) | (go_simp; with_reducible rfl)
      simp only [Act.put, List.setIfInBounds_toArray, List.set_cons_zero, List.set_cons_succ]
      refine anyIn_take 3 16 (v := .int .i64 ((k : Int) - 1)) rfl rfl rfl (by kernel_rfl) (by kernel_rfl) (by kernel_rfl) (fun _ _ _ h => h) ⟨.inl ⟨by rfl, fun w => ?_⟩, fun w => by rfl⟩ ?_
      · first | (go_simp; done) | (go_simp; with_reducible rfl)
      simp only [Act.put, List.setIfInBounds_toArray, List.set_cons_zero, List.set_cons_succ]
      refine anyIn_take 5 18 (v := .int .i64 x) rfl rfl rfl (by kernel_rfl) (by kernel_rfl) (by kernel_rfl) (fun _ _ _ h => h) ⟨.inl ⟨by rfl, fun w => ?_⟩, fun w => by rfl⟩ ?_
      · first | (go_simp; done) | (go_simp; with_reducible rfl)
      simp only [Act.put, List.setIfInBounds_toArray, List.set_cons_zero, List.set_cons_succ]
      refine anyIn_take 7 20 (v := .int .i64 k) rfl rfl rfl (by kernel_rfl) (by kernel_rfl) (by kernel_rfl) (fun _ _ _ h => h) ⟨.inl ⟨by rfl, fun w => ?_⟩, fun w => by rfl⟩ ?_
      · first | (go_simp; done) | (go_simp; with_reducible rfl)
      simp only [Act.put, List.setIfInBounds_toArray, List.set_cons_zero, List.set_cons_succ]
      refine anyIn_take 8 21 (v := .int .i64 ((k : Int) + 1)) rfl rfl rfl (by kernel_rfl) (by kernel_rfl) (by kernel_rfl) (fun _ _ _ h => h) ⟨.inl ⟨by rfl, fun w => ?_⟩, fun w => by rfl⟩ ?_
      · first | (go_simp; done) | (go_simp; with_reducible rfl)
      simp only [Act.put, List.setIfInBounds_toArray, List.set_cons_zero, List.set_cons_succ]
      refine wpAnyIn_ready (rs := [1, 6]) (by kernel_rfl) (by simp) (AllReadyIn.cons rfl (fun K hK => ?_) (AllReadyIn.cons rfl (fun K hK => ?_) AllReadyIn.nil))
      · obtain ⟨l0, l1⟩ := DC.out _ B0
        go_simp
        with_reducible refine hK _ _ ?_
        clear hK K l0 l1
        refine wpAnyIn_ready (rs := [4, 6]) (by kernel_rfl) (by simp) (AllReadyIn.cons rfl (fun K hK => ?_) (AllReadyIn.cons rfl (fun K hK => ?_) AllReadyIn.nil))
        · go_simp
          refine ⟨trivial, (fun h => by cases h), ?_⟩
          with_reducible refine (HP.out _ B0).mono ?_
          rintro e u1 ⟨rfl, B1⟩
          with_reducible refine hK _ _ ?_
          clear hK K
          refine wpAnyIn_ready (rs := [6]) (by kernel_rfl) (by simp) (AllReadyIn.cons rfl (fun K hK => ?_) AllReadyIn.nil)
          obtain ⟨l0, l1⟩ := DC.out _ B1
          go_simp
          with_reducible refine hK _ _ ?_
          clear hK K l0 l1
          refine wpAnyIn_ready (rs := [9]) (by kernel_rfl) (by simp) (AllReadyIn.cons rfl (fun K hK => ?_) AllReadyIn.nil)
          go_simp
          refine ⟨trivial, (fun h => by cases h), ?_⟩
          with_reducible refine (HQ.out _ B1).mono ?_
          rintro e u2 ⟨rfl, B2⟩
          with_reducible refine hK _ _ ?_
          clear hK K
          refine anyIn_take 10 23 (v := .agg #[.int .i64 p, .int .i64 x, .int .i64 q]) rfl rfl rfl (by kernel_rfl) (by kernel_rfl) (by kernel_rfl) (fun _ _ _ h => h) ⟨.inl ⟨by rfl, fun w => ?_⟩, fun w => by rfl⟩ ?_
          · first | (go_simp; done) | (go_simp; with_reducible rfl)
          simp only [Act.put, List.setIfInBounds_toArray, List.set_cons_zero, List.set_cons_succ]
          refine wpAnyIn_ready (rs := [11]) (by kernel_rfl) (by simp) (AllReadyIn.cons rfl (fun K hK => ?_) AllReadyIn.nil)
          obtain ⟨fn, tmps, assign, body, hy, hR⟩ := HYY.out _ B2
          go_simp
          refine ⟨(fun h => by cases h), ?_⟩
          with_reducible refine hR.mono ?_
          rintro e u9 (⟨rfl, hj⟩ | ⟨rfl, hj⟩)
          all_goals
            with_reducible refine hK _ _ ?_
            clear hK K hy hR
          · refine anyIn_take 12 25 (v := .bool false) rfl rfl rfl (by kernel_rfl) (by kernel_rfl) (by kernel_rfl) (fun _ _ _ h => h) ⟨.inl ⟨by rfl, fun w => ?_⟩, fun w => by rfl⟩ ?_
            · first | (go_simp; done) | (go_simp; with_reducible rfl)
            simp only [Act.put, List.setIfInBounds_toArray, List.set_cons_zero, List.set_cons_succ]
            refine wpAnyIn_done (by kernel_rfl) ?_ _
            gi_wp2
            go_roundw
            case rel => exact ⟨k + 1, by omega, by simp, hj.out.1, hj.out.2⟩
            case measure => simp [intOf]; omega
          · refine anyIn_take 12 25 (v := .bool true) rfl rfl rfl (by kernel_rfl) (by kernel_rfl) (by kernel_rfl) (fun _ _ _ h => h) ⟨.inl ⟨by rfl, fun w => ?_⟩, fun w => by rfl⟩ ?_
            · first | (go_simp; done) | (go_simp; with_reducible rfl)
            simp only [Act.put, List.setIfInBounds_toArray, List.set_cons_zero, List.set_cons_succ]
            refine wpAnyIn_done (by kernel_rfl) ?_ _
            gi_wp2
            refine bodyPost_ret (results_none rfl _ _ _) rfl ?_
            exact ⟨⟨_, rfl⟩, .inr ⟨_, ⟨k + 1, by have := HM.out; omega, rfl⟩, hj.out⟩⟩
        · obtain ⟨l0, l1⟩ := DC.out _ B0
          go_simp
          with_reducible refine hK _ _ ?_
          clear hK K l0 l1
          refine wpAnyIn_ready (rs := [4]) (by kernel_rfl) (by simp) (AllReadyIn.cons rfl (fun K hK => ?_) AllReadyIn.nil)
          go_simp
          refine ⟨trivial, (fun h => by cases h), ?_⟩
          with_reducible refine (HP.out _ B0).mono ?_
          rintro e u1 ⟨rfl, B1⟩
          with_reducible refine hK _ _ ?_
          clear hK K
          refine wpAnyIn_ready (rs := [9]) (by kernel_rfl) (by simp) (AllReadyIn.cons rfl (fun K hK => ?_) AllReadyIn.nil)
          go_simp
          refine ⟨trivial, (fun h => by cases h), ?_⟩
          with_reducible refine (HQ.out _ B1).mono ?_
          rintro e u2 ⟨rfl, B2⟩
          with_reducible refine hK _ _ ?_
          clear hK K
          refine anyIn_take 10 23 (v := .agg #[.int .i64 p, .int .i64 x, .int .i64 q]) rfl rfl rfl (by kernel_rfl) (by kernel_rfl) (by kernel_rfl) (fun _ _ _ h => h) ⟨.inl ⟨by rfl, fun w => ?_⟩, fun w => by rfl⟩ ?_
          · first | (go_simp; done) | (go_simp; with_reducible rfl)
          simp only [Act.put, List.setIfInBounds_toArray, List.set_cons_zero, List.set_cons_succ]
          refine wpAnyIn_ready (rs := [11]) (by kernel_rfl) (by simp) (AllReadyIn.cons rfl (fun K hK => ?_) AllReadyIn.nil)
          obtain ⟨fn, tmps, assign, body, hy, hR⟩ := HYY.out _ B2
          go_simp
          refine ⟨(fun h => by cases h), ?_⟩
          with_reducible refine hR.mono ?_
          rintro e u9 (⟨rfl, hj⟩ | ⟨rfl, hj⟩)
          all_goals
            with_reducible refine hK _ _ ?_
            clear hK K hy hR
          · refine anyIn_take 12 25 (v := .bool false) rfl rfl rfl (by kernel_rfl) (by kernel_rfl) (by kernel_rfl) (fun _ _ _ h => h) ⟨.inl ⟨by rfl, fun w => ?_⟩, fun w => by rfl⟩ ?_
            · first | (go_simp; done) | (go_simp; with_reducible rfl)
            simp only [Act.put, List.setIfInBounds_toArray, List.set_cons_zero, List.set_cons_succ]
            refine wpAnyIn_done (by kernel_rfl) ?_ _
            gi_wp2
            go_roundw
            case rel => exact ⟨k + 1, by omega, by simp, hj.out.1, hj.out.2⟩
            case measure => simp [intOf]; omega
          · refine anyIn_take 12 25 (v := .bool true) rfl rfl rfl (by kernel_rfl) (by kernel_rfl) (by kernel_rfl) (fun _ _ _ h => h) ⟨.inl ⟨by rfl, fun w => ?_⟩, fun w => by rfl⟩ ?_
            · first | (go_simp; done) | (go_simp; with_reducible rfl)
            simp only [Act.put, List.setIfInBounds_toArray, List.set_cons_zero, List.set_cons_succ]
            refine wpAnyIn_done (by kernel_rfl) ?_ _
            gi_wp2
            refine bodyPost_ret (results_none rfl _ _ _) rfl ?_
            exact ⟨⟨_, rfl⟩, .inr ⟨_, ⟨k + 1, by have := HM.out; omega, rfl⟩, hj.out⟩⟩
      · obtain ⟨l0, l1⟩ := DC.out _ B0
        go_simp
        with_reducible refine hK _ _ ?_
        clear hK K l0 l1
        refine wpAnyIn_ready (rs := [1]) (by kernel_rfl) (by simp) (AllReadyIn.cons rfl (fun K hK => ?_) AllReadyIn.nil)
        obtain ⟨l0, l1⟩ := DC.out _ B0
        go_simp
        with_reducible refine hK _ _ ?_
        clear hK K l0 l1
        refine wpAnyIn_ready (rs := [4]) (by kernel_rfl) (by simp) (AllReadyIn.cons rfl (fun K hK => ?_) AllReadyIn.nil)
        go_simp
        refine ⟨trivial, (fun h => by cases h), ?_⟩
        with_reducible refine (HP.out _ B0).mono ?_
        rintro e u1 ⟨rfl, B1⟩
        with_reducible refine hK _ _ ?_
        clear hK K
        refine wpAnyIn_ready (rs := [9]) (by kernel_rfl) (by simp) (AllReadyIn.cons rfl (fun K hK => ?_) AllReadyIn.nil)
        go_simp
        refine ⟨trivial, (fun h => by cases h), ?_⟩
        with_reducible refine (HQ.out _ B1).mono ?_
        rintro e u2 ⟨rfl, B2⟩
        with_reducible refine hK _ _ ?_
        clear hK K
        refine anyIn_take 10 23 (v := .agg #[.int .i64 p, .int .i64 x, .int .i64 q]) rfl rfl rfl (by kernel_rfl) (by kernel_rfl) (by kernel_rfl) (fun _ _ _ h => h) ⟨.inl ⟨by rfl, fun w => ?_⟩, fun w => by rfl⟩ ?_
        · first | (go_simp; done) | (go_simp; with_reducible rfl)
        simp only [Act.put, List.setIfInBounds_toArray, List.set_cons_zero, List.set_cons_succ]
        refine wpAnyIn_ready (rs := [11]) (by kernel_rfl) (by simp) (AllReadyIn.cons rfl (fun K hK => ?_) AllReadyIn.nil)
        obtain ⟨fn, tmps, assign, body, hy, hR⟩ := HYY.out _ B2
        go_simp
        refine ⟨(fun h => by cases h), ?_⟩
        with_reducible refine hR.mono ?_
        rintro e u9 (⟨rfl, hj⟩ | ⟨rfl, hj⟩)
        all_goals
          with_reducible refine hK _ _ ?_
          clear hK K hy hR
        · refine anyIn_take 12 25 (v := .bool false) rfl rfl rfl (by kernel_rfl) (by kernel_rfl) (by kernel_rfl) (fun _ _ _ h => h) ⟨.inl ⟨by rfl, fun w => ?_⟩, fun w => by rfl⟩ ?_
          · first | (go_simp; done) | (go_simp; with_reducible rfl)
          simp only [Act.put, List.setIfInBounds_toArray, List.set_cons_zero, List.set_cons_succ]
          refine wpAnyIn_done (by kernel_rfl) ?_ _
          gi_wp2
          go_roundw
          case rel => exact ⟨k + 1, by omega, by simp, hj.out.1, hj.out.2⟩
          case measure => simp [intOf]; omega
        · refine anyIn_take 12 25 (v := .bool true) rfl rfl rfl (by kernel_rfl) (by kernel_rfl) (by kernel_rfl) (fun _ _ _ h => h) ⟨.inl ⟨by rfl, fun w => ?_⟩, fun w => by rfl⟩ ?_
          · first | (go_simp; done) | (go_simp; with_reducible rfl)
          simp only [Act.put, List.setIfInBounds_toArray, List.set_cons_zero, List.set_cons_succ]
          refine wpAnyIn_done (by kernel_rfl) ?_ _
          gi_wp2
          refine bodyPost_ret (results_none rfl _ _ _) rfl ?_
          exact ⟨⟨_, rfl⟩, .inr ⟨_, ⟨k + 1, by have := HM.out; omega, rfl⟩, hj.out⟩⟩
    · obtain rfl : k = m := by omega
      have HJ := Lib.hid hJs
      gi_wp2
      go_end0
      exact ⟨⟨_, rfl⟩, .inl ⟨_, rfl, HJ.out⟩⟩

theorem spots1_in (n l Bs n₀ B : Nat) (ep : Int) (v0 : Value) (w0 : World) (L : List Int) (hlim : L.length ≤ 1000000) (hI : Ints w0 B v0 L) (hBn : B ≤ n₀) (J Jx : List SpotV → World → Prop)
    (hY : ∀ pre x W, J pre W → pre.length < L.length → YieldAt Fence.wide (n - 1) Try.prog l (encSp x) W fun e W' =>
      (e = .returned (.bool true) ∧ J (pre ++ [x]) W' ∧ KeepB n₀ Bs W W') ∨ (e = .returned (.bool false) ∧ Jx (pre ++ [x]) W'))
    (W : World) (hn₀ : n₀ ≤ W.heap.size) (hJa : AbidesFrom W.heap.size J) (h0W : Below B w0 W) (hbox : ChB W Bs ep v0) (h0 : J [] W) :
    CallsIn Fence.wide n Try.prog 58 #[.func (.yield l) #[] #[], .pointer (some ⟨Bs, 0, none⟩)] W fun e W' => (∃ v, e = .returned v) ∧
      ((∃ ys, ys = spotsOf L L.length ∧ J ys W') ∨ (∃ pre, (∃ k, k ≤ L.length ∧ pre = spotsOf L k) ∧ Jx pre W')) :=
  spots1_g (spotOf L) encSp n l Bs n₀ B ep v0 w0 L hlim hI hBn (fun _ _ => rfl) J Jx hY W hn₀ hJa h0W hbox h0
end Go.Proofs.Ytiidmiioegdfaaa

/-! ## ChainB -/
/-
  THE PROGRAM's find, Has, Above, Below, Head, Tail. Of chains of at most a million nodes.
-/
namespace Go.Proofs.Ytiidmiioegdfaaa
open Go.RowKit Go.Shelf

attribute [local go_sem] Oper.semAt_some

set_option maxHeartbeats 400000 in
theorem chspots_any (ep : Int) (v : Value) (w : World) : Calls Try.prog 53 #[.agg #[.int .i64 ep, v]] w fun e w' => e = .returned (.func (.func 58) #[] #[.pointer (some ⟨w.heap.size, 0, none⟩)]) ∧ w' = w.alloc (.cells #[.int .i64 ep, v] 26) := by
  go_enter Try.func53, Try.ntmps53
  go_wp2
  go_ret
  exact ⟨rfl, rfl⟩

theorem spots_stops (n Bs n₀ B : Nat) (ep : Int) (v0 : Value) (w0 : World) (L : List Int) (hlim : L.length ≤ 1000000) (hI : Ints w0 B v0 L) (hBn : B ≤ n₀) (w : World) (hBw : Below B w0 w) (hn₀ : n₀ ≤ w.heap.size) (hbox : ChB w Bs ep v0) :
    SeqStopsK Fence.wide n Try.prog 58 #[.pointer (some ⟨Bs, 0, none⟩)] encSp (KeepB n₀ Bs) (fun ys => ys = spotsOf L L.length) (fun pre => ∃ k, k ≤ L.length ∧ pre = spotsOf L k) L.length w := fun l J Jx W hW hJa _ hY h0 =>
  spots1_in n l Bs n₀ B ep v0 w0 L hlim hI hBn J Jx hY W (Nat.le_trans hn₀ hW.size) hJa (hBw.trans (hW.mono (by omega))) (hbox.keep hW hbox.lt) h0

/-- Block b holds who stands where; block b holds a bool. -/
def SpB (w : World) (b : Nat) (x : SpotV) : Prop := w.heap[b]? = some (.cells #[.int .i64 x.ab, .int .i64 x.nd, .int .i64 x.bl] 93 (0, 0))
def BoB (w : World) (b : Nat) (x : Bool) : Prop := w.heap[b]? = some (.cells #[.bool x] 4 (0, 0))
theorem SpB.cells {w : World} {b : Nat} {x : SpotV} (h : SpB w b x) : (w.cell? ⟨b, 0, none⟩ = some (.int .i64 x.ab) ∧ w.cell? ⟨b, 1, none⟩ = some (.int .i64 x.nd) ∧ w.cell? ⟨b, 2, none⟩ = some (.int .i64 x.bl)) ∧
    (w.frozen? ⟨b, 0, none⟩ = false ∧ w.frozen? ⟨b, 1, none⟩ = false ∧ w.frozen? ⟨b, 2, none⟩ = false) := by
  have h' : w.heap[b]? = some (.cells #[.int .i64 x.ab, .int .i64 x.nd, .int .i64 x.bl] 93 (0, 0)) := h
  refine ⟨⟨?_, ?_, ?_⟩, ⟨?_, ?_, ?_⟩⟩ <;> simp [World.cell?, World.frozen?, h']
theorem BoB.cells {w : World} {b : Nat} {x : Bool} (h : BoB w b x) : w.cell? ⟨b, 0, none⟩ = some (.bool x) ∧ w.frozen? ⟨b, 0, none⟩ = false := by
  have h' : w.heap[b]? = some (.cells #[.bool x] 4 (0, 0)) := h
  refine ⟨?_, ?_⟩ <;> simp [World.cell?, World.frozen?, h']
theorem cells_own {X Y : World} {row : Option Nat} {b : Nat} {cs : Array Value} {e : TypeId} {fr : Nat × Nat} (h : X.heap[b]? = some (.cells cs e fr)) (hg : X.grownBy Y row) (hrow : ∀ r, row = some r → ∃ o : Obj, X.heap[r]? = some o ∧ o.isCells = false) : Y.heap[b]? = some (.cells cs e fr) :=
  (hg.block b (lt_of_block h) (fun e' => by obtain ⟨o, ho, hc⟩ := hrow b e'.symm; rw [h] at ho; cases ho; cases hc)).trans h

/-- Who stands where, and a bool, stored. -/
def sbW (W : World) (R : Nat) (x : SpotV) (r : Bool) : World := (((W.setCell ⟨R, 0, none⟩ (.int .i64 x.ab)).setCell ⟨R, 1, none⟩ (.int .i64 x.nd)).setCell ⟨R, 2, none⟩ (.int .i64 x.bl)).setCell ⟨R + 1, 0, none⟩ (.bool r)
theorem sb_stored {W : World} {R : Nat} {y : SpotV} {r0 : Bool} (h : SpB W R y) (f : BoB W (R + 1) r0) (x : SpotV) (r : Bool) :
    SpB (sbW W R x r) R x ∧ BoB (sbW W R x r) (R + 1) r ∧ KeepsOthers W (sbW W R x r) ∧ ∀ B w, Below B w W → B ≤ R → Below B w (sbW W R x r) := by
  have h0 : (W.setCell ⟨R, 0, none⟩ (.int .i64 x.ab)).heap[R]? = some (.cells #[.int .i64 x.ab, .int .i64 y.nd, .int .i64 y.bl] 93 (0, 0)) := by rw [heap_setCell_same _ _ _ _ _ _ h]; rfl
  have h1 : ((W.setCell ⟨R, 0, none⟩ (.int .i64 x.ab)).setCell ⟨R, 1, none⟩ (.int .i64 x.nd)).heap[R]? = some (.cells #[.int .i64 x.ab, .int .i64 x.nd, .int .i64 y.bl] 93 (0, 0)) := by rw [heap_setCell_same _ _ _ _ _ _ h0]; rfl
  have h2 : (((W.setCell ⟨R, 0, none⟩ (.int .i64 x.ab)).setCell ⟨R, 1, none⟩ (.int .i64 x.nd)).setCell ⟨R, 2, none⟩ (.int .i64 x.bl)).heap[R]? = some (.cells #[.int .i64 x.ab, .int .i64 x.nd, .int .i64 x.bl] 93 (0, 0)) := by rw [heap_setCell_same _ _ _ _ _ _ h1]; rfl
  have f0 : (((W.setCell ⟨R, 0, none⟩ (.int .i64 x.ab)).setCell ⟨R, 1, none⟩ (.int .i64 x.nd)).setCell ⟨R, 2, none⟩ (.int .i64 x.bl)).heap[R + 1]? = some (.cells #[.bool r0] 4 (0, 0)) := by
    rw [Below.heap_setCell _ _ _ _ (by simp), Below.heap_setCell _ _ _ _ (by simp), Below.heap_setCell _ _ _ _ (by simp)]
    exact f
  refine ⟨?_, ?_, ?_, fun B w hb hR => (((hb.setCell (p := ⟨R, 0, none⟩) hR _).setCell (p := ⟨R, 1, none⟩) hR _).setCell (p := ⟨R, 2, none⟩) hR _).setCell (p := ⟨R + 1, 0, none⟩) (Nat.le_succ_of_le hR) _⟩
  · show (sbW W R x r).heap[R]? = _
    unfold sbW
    rw [Below.heap_setCell _ _ _ _ (by simp)]
    exact h2
  · show (sbW W R x r).heap[R + 1]? = _
    unfold sbW
    rw [heap_setCell_same _ _ _ _ _ _ f0]
    rfl
  · exact (((KeepsOthers.setCell _ _ _).trans (KeepsOthers.setCell _ _ _)).trans (KeepsOthers.setCell _ _ _)).trans (KeepsOthers.setCell _ _ _)

/-- Where he stands first, and whether he does. -/
def findV (L : List Int) (x : Int) : SpotV × Bool := if x ∈ L then (⟨abvV L x, x, blwV L x⟩, true) else (⟨-1, x, -1⟩, false)
theorem find_hit {L : List Int} {x : Int} {k : Nat} {p : List SpotV} {y : SpotV} (hk : k ≤ L.length) (hp : p ++ [y] = spotsOf L k) (hy : y.nd = x) (hn : ∀ z ∈ p, z.nd ≠ x) : findV L x = (y, true) := by
  cases k with
  | zero => have := congrArg List.length hp; rw [spotsOf_length] at this; simp at this
  | succ k =>
    rw [spotsOf_succ] at hp
    obtain ⟨rfl, h⟩ := List.append_inj' hp rfl
    obtain rfl : y = spotOf L k := by simpa using h
    have hnt : x ∉ L.take k := fun h => by
      rw [← spotsOf_nodes L k (by omega)] at h
      obtain ⟨z, hz, he⟩ := List.mem_map.1 h
      exact hn z hz he
    obtain ⟨h1, h2⟩ := idx_first hk hy hnt
    unfold findV abvV blwV
    rw [if_pos h1, if_pos h1, if_pos h1, h2]
    subst hy
    rfl
theorem find_miss {L : List Int} {x : Int} {p : List SpotV} (hp : p = spotsOf L L.length) (hn : ∀ z ∈ p, z.nd ≠ x) : findV L x = (⟨-1, x, -1⟩, false) := by
  unfold findV
  rw [if_neg]
  intro h
  have := spotsOf_nodes L L.length (Nat.le_refl _)
  rw [List.take_length, ← hp] at this
  rw [← this] at h
  obtain ⟨z, hz, he⟩ := List.mem_map.1 h
  exact hn z hz he

set_option maxRecDepth 100000 in
set_option maxHeartbeats 4000000 in
theorem chfind_in (n B : Nat) (hn : 3 ≤ n) (ep : Int) (v : Value) (L : List Int) (hlim : L.length ≤ 1000000) (x : Int) (w : World) (hI : Ints w B v L) (hB : B ≤ w.heap.size) {a b c : Int} {r : Bool} (hR : findV L x = (⟨a, b, c⟩, r)) :
    CallsIn Fence.wide n Try.prog 61 #[.agg #[.int .i64 ep, v], .int .i64 x] w fun e w' => e = .returned (.tuple #[.agg #[.int .i64 a, .int .i64 b, .int .i64 c], .bool r]) ∧ Below w.heap.size w w' := by
  have hro : Fence.wide.round = none := rfl
  have h1 : 1 ≤ n := by omega
  obtain ⟨a0, c0, rfl⟩ : ∃ a c, v = .slice a L.length c := by obtain ⟨a, c, h, _⟩ := hI; exact ⟨a, c, h⟩
  have HB := Lib.hid hI
  have HR := Lib.hid hR
  clear hI hR
  refine callsIn_of_wp_marks Try.func61 rfl trivial ?_ hro
  simp only [Try.ntmps61, List.size_toArray, List.length_cons, List.length_nil, Nat.reduceAdd, Nat.reduceSub, Array.replicate_succ, Array.replicate_zero, List.push_toArray, List.append_toArray, List.nil_append, List.cons_append]
  gi_wp2_with (refine ⟨trivial, ?_⟩; refine (callsIn_wide.2 (chspots_any _ _ _)).mono ?_; rintro e w' ⟨rfl, rfl⟩)
  obtain ⟨m, hm⟩ : ∃ m, m = L.length := ⟨_, rfl⟩
  obtain ⟨w3, hw3⟩ : ∃ w3, w3 = ((((w.alloc (.cells #[.int .i64 ep, .slice a0 L.length c0] 26)).alloc (.cells #[.int .i64 x] 3)).alloc (.cells #[.int .i64 0, .int .i64 0, .int .i64 0] 93)).alloc (.cells #[.bool false] 4)).alloc (.cells #[.int .i64 ep, .slice a0 L.length c0] 26) := ⟨_, rfl⟩
  have hs3 : w3.heap.size = w.heap.size + 5 := by rw [hw3]; simp
  have hB3 : Below w.heap.size w w3 := by rw [hw3]; exact (((((Below.refl _ w).alloc (Nat.le_refl _) _).alloc (by simp) _).alloc (by simp; omega) _).alloc (by simp; omega) _).alloc (by simp; omega) _
  have hN3 : Boxed w3 (w.heap.size + 1) 3 (.int .i64 x) := by
    rw [hw3]
    have := (((Boxed.new (w.alloc (.cells #[.int .i64 ep, .slice a0 L.length c0] 26)) 3 (.int .i64 x)).alloc (.cells #[.int .i64 0, .int .i64 0, .int .i64 0] 93)).alloc (.cells #[.bool false] 4)).alloc (.cells #[.int .i64 ep, .slice a0 L.length c0] 26)
    rwa [World.size_alloc] at this
  have hS3 : SpB w3 (w.heap.size + 2) ⟨0, 0, 0⟩ := by
    rw [hw3]
    have h := heap_alloc_new ((w.alloc (.cells #[.int .i64 ep, .slice a0 L.length c0] 26)).alloc (.cells #[.int .i64 x] 3)) (.cells #[.int .i64 0, .int .i64 0, .int .i64 0] 93)
    rw [World.size_alloc, World.size_alloc] at h
    refine ((((Below.refl _ _).alloc (Nat.le_refl _) _).alloc (by simp) _).block _ (by simp)).trans h
  have hF3 : BoB w3 (w.heap.size + 3) false := by
    rw [hw3]
    have h := heap_alloc_new (((w.alloc (.cells #[.int .i64 ep, .slice a0 L.length c0] 26)).alloc (.cells #[.int .i64 x] 3)).alloc (.cells #[.int .i64 0, .int .i64 0, .int .i64 0] 93)) (.cells #[.bool false] 4)
    rw [World.size_alloc, World.size_alloc, World.size_alloc] at h
    refine (((Below.refl _ _).alloc (Nat.le_refl _) _).block _ (by simp)).trans h
  have hC3 : ChB w3 (w.heap.size + 4) ep (.slice a0 L.length c0) := by
    rw [hw3]
    have h := heap_alloc_new ((((w.alloc (.cells #[.int .i64 ep, .slice a0 L.length c0] 26)).alloc (.cells #[.int .i64 x] 3)).alloc (.cells #[.int .i64 0, .int .i64 0, .int .i64 0] 93)).alloc (.cells #[.bool false] 4)) (.cells #[.int .i64 ep, .slice a0 L.length c0] 26)
    rw [World.size_alloc, World.size_alloc, World.size_alloc, World.size_alloc] at h
    exact ⟨_, h⟩
  rw [← hw3]
  clear hw3
  refine wpIn_rangeFunc_ownH hro h1 (gf := 58) (lb := #[.pointer (some ⟨w.heap.size + 4, 0, none⟩)]) rfl trivial (enters_of Try.func58 (by kernel_rfl) rfl)
    (spots_stops (n - 1) (w.heap.size + 4) w.heap.size B ep (.slice a0 L.length c0) w L hlim HB.out hB w3 (hB3.mono hB) (by omega) hC3)
    (fun h k => KeepB.trans h k) (fun W l o o' hl ho h1 h2 => ⟨belowK_b (w := w3) (by omega) W l o o' hl ho h1 h2, World.putObj_heap_other (by omega)⟩) (Below.refl _ _) (fun _ => rfl)
    (fun pre W => ((∀ z ∈ pre, z.nd ≠ x) ∧ Boxed W (w.heap.size + 1) 3 (.int .i64 x) ∧ SpB W (w.heap.size + 2) ⟨0, 0, 0⟩ ∧ BoB W (w.heap.size + 3) false ∧ w.heap.size + 5 ≤ W.heap.size) ∧ Below w.heap.size w W)
    (fun c pre W => (c = .ret ∧ ∃ p y, pre = p ++ [y] ∧ y.nd = x ∧ (∀ z ∈ p, z.nd ≠ x) ∧ SpB W (w.heap.size + 2) y ∧ BoB W (w.heap.size + 3) true) ∧ Below w.heap.size w W)
    (OwnFrom.and (fun s X Y row ⟨h1, h2, h3, h4, h5⟩ hg hr => ⟨h1, cells_own h2 hg (fun r e => (hr r e).2), cells_own h3 hg (fun r e => (hr r e).2), cells_own h4 hg (fun r e => (hr r e).2), Nat.le_trans h5 hg.size⟩) (ownFrom_below (Nat.le_refl _) (by omega)))
    (fun c => OwnFrom.and (fun s X Y row ⟨h0, p, y, h1, h2, h3, h4, h5⟩ hg hr => ⟨h0, p, y, h1, h2, h3, cells_own h4 hg (fun r e => (hr r e).2), cells_own h5 hg (fun r e => (hr r e).2)⟩) (ownFrom_below (Nat.le_refl _) (by omega)))
    ⟨⟨(fun z hz => by cases hz), hN3, hS3, hF3, by omega⟩, hB3⟩
    (fun y a' W => ∃ Bx, SpB W Bx y ∧ a' = { tmps := #[.agg #[.int .i64 ep, .slice a0 L.length c0], .int .i64 x, .pointer (some ⟨w.heap.size, 0, none⟩), .pointer (some ⟨w.heap.size + 1, 0, none⟩), .pointer (some ⟨w.heap.size + 2, 0, none⟩), .pointer (some ⟨w.heap.size + 3, 0, none⟩), .pointer (some ⟨Bx, 0, none⟩), .agg #[.int .i64 ep, .slice a0 L.length c0],
        .func (.func 58) #[] #[.pointer (some ⟨w.heap.size + 4, 0, none⟩)], y.val, undef, undef, undef, undef, undef, undef, undef], defers := [] })
    (fun y a' => fun s X Y row ⟨Bx, hbx, ha⟩ hg hr => ⟨Bx, cells_own hbx hg (fun r e => (hr r e).2), ha⟩) ?assign ?body ?done ?stop
  case assign =>
    rintro l pre y W K ⟨⟨i1, i2, i3, i4, i5⟩, hB⟩ hK
    simp only [encSp, SpotV.val]
    gi_wp2
    have hb1 : Below W.heap.size W (W.alloc (.cells #[.int .i64 y.ab, .int .i64 y.nd, .int .i64 y.bl] 93)) := (Below.refl _ W).alloc (Nat.le_refl _) _
    exact hK _ _ ((KeepsOthers.alloc _ _).from _) (.of hb1 hB.size (by omega)) ⟨⟨i1, (hb1.block _ (by omega)).trans i2, (hb1.block _ (by omega)).trans i3, (hb1.block _ (by omega)).trans i4, by simp; omega⟩, hB.trans (hb1.mono hB.size)⟩ ⟨W.heap.size, heap_alloc_new W _, rfl⟩
  case body =>
    rintro l pre ⟨p, q, r⟩ a' W hl ⟨rr, hr⟩ ⟨⟨i1, i2, i3, i4, i5⟩, hB⟩ ⟨Bx, bX, rfl⟩ hlt
    have cx := i2.cell
    obtain ⟨⟨s0, s1, s2⟩, z0, z1, z2⟩ := i3.cells
    obtain ⟨f0, g0⟩ := i4.cells
    obtain ⟨⟨x0, x1, x2⟩, _⟩ := bX.cells
    have I1 := Lib.hid i1
    have I3 := Lib.hid i3
    have I4 := Lib.hid i4
    clear hlt i1 hr
    dsimp only [SpotV.val] at x0 x1 x2 ⊢
    by_cases hq : q = x
    · subst hq
      gi_wp2
      obtain ⟨k1, k2, k3, k4⟩ := sb_stored I3.out I4.out ⟨p, q, r⟩ true
      exact ⟨k3.from _, ⟨rfl, pre, ⟨p, q, r⟩, rfl, rfl, I1.out, k1, k2⟩, k4 _ _ hB (by omega)⟩
    · have hqb : (q == x) = false := beq_eq_false_iff_ne.2 hq
      have HQ := Lib.hid hq
      clear hq
      gi_wp2
      exact ⟨KeepsFrom.refl _ _, ⟨Below.refl _ _, rfl⟩, ⟨fun z hz => by
        rcases List.mem_append.1 hz with hz | hz
        · exact I1.out z hz
        · rw [List.mem_singleton.1 hz]; exact HQ.out, i2, I3.out, I4.out, i5⟩, hB⟩
  case done =>
    rintro D ys W hD rfl ⟨⟨i1, i2, i3, i4, i5⟩, hB⟩ hK
    have cx := i2.cell
    obtain ⟨⟨s0, s1, s2⟩, z0, z1, z2⟩ := i3.cells
    obtain ⟨f0, g0⟩ := i4.cells
    have hm := find_miss rfl i1
    rw [HR.out] at hm
    simp only [Prod.mk.injEq, SpotV.mk.injEq] at hm
    obtain ⟨⟨rfl, rfl, rfl⟩, rfl⟩ := hm
    obtain ⟨k1, k2, k3, k4⟩ := sb_stored i3 i4 ⟨-1, b, -1⟩ false
    have K1 := Lib.hid k1
    have K2 := Lib.hid k2
    have K4 := Lib.hid (k4 _ _ hB (by omega))
    have hK4 := k3.same D _ hK rfl
    clear k1 k2 k3 k4
    gi_wp2
    refine ⟨by simp, .inl ⟨_, _, rfl, run_takeDeferred hK4, ?_⟩⟩
    have hr5 : SpB ((sbW W (w.heap.size + 2) ⟨-1, b, -1⟩ false).putObj D (.deferred none)) (w.heap.size + 2) ⟨-1, b, -1⟩ := cells_own K1.out (grownBy_putObj' _ D (.deferred none)) (fun r e => by cases e; exact ⟨_, hK4, rfl⟩)
    have hq5 : BoB ((sbW W (w.heap.size + 2) ⟨-1, b, -1⟩ false).putObj D (.deferred none)) (w.heap.size + 3) false := cells_own K2.out (grownBy_putObj' _ D (.deferred none)) (fun r e => by cases e; exact ⟨_, hK4, rfl⟩)
    obtain ⟨⟨e0, e1, e2⟩, _⟩ := hr5.cells
    obtain ⟨e3, _⟩ := hq5.cells
    refine ⟨.tuple #[.agg #[.int .i64 (-1), .int .i64 b, .int .i64 (-1)], .bool false], ?_, rfl, K4.out.trans (belowK_b (w := w) (Nat.le_refl _) _ D _ _ (by omega) hK4 rfl rfl)⟩
    unfold sbW at e0 e1 e2 e3
    simp [results, Try.results61, go_sem, e0, e1, e2, e3]
  case stop =>
    rintro D c pre W _ ⟨k, hk, hp⟩ ⟨⟨rfl, p, y, rfl, h2, h3, h4, h5⟩, hB⟩ hK
    have hm := find_hit hk hp h2 h3
    rw [HR.out] at hm
    simp only [Prod.mk.injEq] at hm
    obtain ⟨rfl, rfl⟩ := hm
    clear h2 h3
    gi_wp2
    refine ⟨by simp, .inl ⟨_, _, rfl, run_takeDeferred hK, ?_⟩⟩
    have hr5 : SpB (W.putObj D (.deferred none)) (w.heap.size + 2) ⟨a, b, c⟩ := cells_own h4 (grownBy_putObj' _ D (.deferred none)) (fun r e => by cases e; exact ⟨_, hK, rfl⟩)
    have hq5 : BoB (W.putObj D (.deferred none)) (w.heap.size + 3) true := cells_own h5 (grownBy_putObj' _ D (.deferred none)) (fun r e => by cases e; exact ⟨_, hK, rfl⟩)
    obtain ⟨⟨e0, e1, e2⟩, _⟩ := hr5.cells
    obtain ⟨e3, _⟩ := hq5.cells
    refine ⟨.tuple #[.agg #[.int .i64 a, .int .i64 b, .int .i64 c], .bool true], ?_, rfl, hB.trans (belowK_b (w := w) (Nat.le_refl _) _ D _ _ (by omega) hK rfl rfl)⟩
    simp [results, Try.results61, go_sem, e0, e1, e2, e3]

theorem chfind_r (ep : Int) (v : Value) (L : List Int) (hlim : L.length ≤ 1000000) (x : Int) (B : Nat) (w : World) (hI : Ints w B v L) (hB : B ≤ w.heap.size) {a b c : Int} {r : Bool} (hR : findV L x = (⟨a, b, c⟩, r)) :
    Calls Try.prog 61 #[.agg #[.int .i64 ep, v], .int .i64 x] w fun e w' => e = .returned (.tuple #[.agg #[.int .i64 a, .int .i64 b, .int .i64 c], .bool r]) ∧ Below w.heap.size w w' :=
  callsIn_wide.1 (chfind_in 3 B (Nat.le_refl _) ep v L hlim x w hI hB hR)

set_option maxHeartbeats 1000000 in
theorem chhas_r (ep : Int) (v : Value) (L : List Int) (hlim : L.length ≤ 1000000) (x : Int) (B : Nat) (w : World) (hI : Ints w B v L) (hB : B ≤ w.heap.size) {R : Bool} (hR : decide (x ∈ L) = R) :
    Calls Try.prog 60 #[.agg #[.int .i64 ep, v], .int .i64 x] w fun e w' => e = .returned (.bool R) ∧ Below w.heap.size w w' := by
  have hr : (findV L x).2 = R := by rw [← hR]; unfold findV; split <;> simp [*]
  obtain ⟨⟨⟨a, b, c⟩, r⟩, hf⟩ : ∃ f, findV L x = f := ⟨_, rfl⟩
  rw [hf] at hr
  simp only at hr
  subst hr
  have HF : Hid (∀ o, Calls Try.prog 61 #[.agg #[.int .i64 ep, v], .int .i64 x] (w.alloc o) fun e w' => e = .returned (.tuple #[.agg #[.int .i64 a, .int .i64 b, .int .i64 c], .bool r]) ∧ Below w.heap.size w w') := fun o => by
    have hb : Below w.heap.size w (w.alloc o) := (Below.refl _ w).alloc (Nat.le_refl _) o
    exact (chfind_r ep v L hlim x B _ (hI.keep (hb.mono hB)) (Nat.le_trans hB hb.size) hf).mono fun e w' ⟨he, h⟩ => ⟨he, hb.trans (h.mono hb.size)⟩
  clear hI hR hf
  go_enter Try.func60, Try.ntmps60
  go_wp2_with fail
  refine (HF.out _).mono ?_
  rintro e w1 ⟨rfl, B1⟩
  have C1 := Lib.hid B1
  clear B1
  go_wp2
  go_returns
  exact ⟨rfl, C1.out.alloc C1.out.size _⟩

end Go.Proofs.Ytiidmiioegdfaaa

/-! ## ChainC -/
/-
  THE PROGRAM's turns (a closure over what is left), mayBeNew, mayBeOf; slices.Index, slices.Max of ints. Of at most a million.
-/
namespace Go.Proofs.Ytiidmiioegdfaaa
open Go.RowKit

theorem size_int1 (u : World) : (sizeOf (Try.prog.elem 24)).run Try.prog u = .ok 1 u := by kernel_rfl
set_option maxRecDepth 100000 in
theorem run_slice_ints (a : Option Addr) (n cap : Nat) (lo hi : Option Value) (u : World) : (Instr.sliceAt 24 (.slice a n cap) lo hi none).run Try.prog u = (Instr.slice 24 (.slice a n cap) lo hi none).run Try.prog u := run_sliceAt_slice u 24 _ _ _ _ Try.underlying24
set_option maxRecDepth 100000 in
/-- 'v[i:]' of ints that a slice holds. -/
theorem ints_from {w : World} {B : Nat} {a : Option Addr} {n cap : Nat} {L : List Int} (h : Ints w B (.slice a n cap) L) (i : Nat) (x : Int) (hx : x = i) (hi : i ≤ n) :
    ∃ a', (∀ u : World, (Instr.sliceAt 24 (.slice a n cap) (some (.int .i64 x)) none none).run Try.prog u = .ok (.slice a' (n - i) (cap - i)) u ∧ (Instr.slice 24 (.slice a n cap) (some (.int .i64 x)) none none).run Try.prog u = .ok (.slice a' (n - i) (cap - i)) u) ∧
      Ints w B (.slice a' (n - i) (cap - i)) (L.drop i) := by
  subst hx
  obtain ⟨ao, cap', he, h1, h2, h3, h4⟩ := h
  simp only [Value.slice.injEq] at he
  obtain ⟨rfl, rfl, rfl⟩ := he
  have hrun : ∀ u, (Instr.slice 24 (.slice a L.length cap) (some (.int .i64 (i : Int))) none none).run Try.prog u = .ok (.slice (if cap = i then a else a.map (·.add (i * 1))) (L.length - i) (cap - i)) u := fun u => by
    rw [run_slice_l u 24 a L.length cap Try.underlying24 .i64 i (by omega) (by omega), size_int1]
    simp [Result.andThen, sliced]
  refine ⟨if cap = i then a else a.map (·.add (i * 1)), fun u => ⟨(run_slice_ints ..).trans (hrun u), hrun u⟩, ?_⟩
  have hdl : (L.drop i).length = L.length - i := List.length_drop
  by_cases hci : cap = i
  · rw [if_pos hci]
    have hl : L.drop i = [] := List.eq_nil_of_length_eq_zero (by rw [List.length_drop]; omega)
    refine ⟨_, _, by rw [hdl], by omega, by omega, fun e => by rw [h3 e]; omega, fun e => absurd hl e⟩
  · rw [if_neg hci]
    refine ⟨_, _, by rw [hdl], by omega, by omega, fun e => ?_, fun hne => ?_⟩
    · cases a with
      | none => rw [h3 rfl]; omega
      | some a => cases e
    · obtain ⟨b, off, rfl, hb, hc⟩ := h4 (fun e => hne (by rw [e]; simp))
      refine ⟨b, off + i, by rw [Option.map_some, Nat.mul_one, Addr.add_lit], hb, fun j hj => ?_⟩
      rw [hdl] at hj
      rw [Nat.add_assoc, hc (i + j) (by omega), List.getD_eq_getElem?_getD, List.getD_eq_getElem?_getD, List.getElem?_drop]

set_option maxHeartbeats 1000000 in
theorem slindex_r (v : Value) (L : List Int) (x : Int) (B : Nat) (w : World) (hI : Ints w B v L) (hlim : L.length ≤ 1000000) {R : Int} (hR : plcV L x = R) :
    Calls Try.prog 57 #[v, .int .i64 x] w fun e w' => e = .returned (.int .i64 R) ∧ w = w' := by
  have HR := Lib.hid hR
  obtain ⟨a0, c0, rfl⟩ : ∃ a c, v = .slice a L.length c := by obtain ⟨a, c, h, _⟩ := hI; exact ⟨a, c, h⟩
  obtain ⟨n, hn⟩ : ∃ n, n = L.length := ⟨_, rfl⟩
  rw [← hn] at hI hlim ⊢
  have HN := Lib.hid hn
  have HI := Lib.hid hI
  clear hR hn hI
  go_enter Try.func57, Try.ntmps57
  go_wp2
  go_loopw [8] (fun s8 wr => ∃ k : Nat, k ≤ n ∧ s8 = .int .i64 k ∧ Hid (x ∉ L.take k) ∧ w = wr) (fun s8 _ => n - (intOf s8).toNat)
  case atStart => exact ⟨0, Nat.zero_le _, rfl, by show _ ∉ _; simp, rfl⟩
  case round =>
    obtain ⟨k, hk, rfl, HK, rfl⟩ := hrel
    by_cases hlt : k < n
    · obtain ⟨b, off, rfl, hb, hc⟩ := (ints_cell HI.out).2 k hlt
      have k1 : (k : Int) < (n : Int) := by omega
      have k0 : (0 : Int) ≤ (k : Int) := by omega
      obtain ⟨y, hy⟩ : ∃ y, y = L.getD k 0 := ⟨_, rfl⟩
      rw [← hy] at hc
      have HY := Lib.hid hy
      clear hy
      by_cases hxy : x = y
      · have HF : Hid (R = (k : Int)) := by
          show _ = _
          rw [← HR.out]
          obtain ⟨h1, h2⟩ := idx_first (L := L) (k := k) (x := x) (by have := HN.out; omega) (by rw [← HY.out, hxy]) HK.out
          unfold plcV
          rw [if_pos h1, h2]
        subst hxy
        go_wp2
        go_returns
        exact ⟨ret_num HF.out.symm, rfl⟩
      · have HF : Hid (x ∉ L.take (k + 1)) := not_take (by have := HN.out; omega) HK.out (fun e => hxy (e.symm.trans HY.out.symm))
        have hb2 : (x == y) = false := beq_eq_false_iff_ne.2 hxy
        clear hxy
        go_wp2
        go_roundw
        case rel => exact ⟨k + 1, by omega, by go_num, HF.out, by first | rfl | trivial⟩
        case measure => simp [intOf]; omega
    · have hle : (n : Int) ≤ (k : Int) := by omega
      have HF : Hid (R = -1) := by
        show _ = _
        rw [← HR.out]
        unfold plcV
        rw [if_neg (not_first (by have := HN.out; omega) HK.out)]
      go_wp2
      go_returns
      exact ⟨ret_num HF.out.symm, rfl⟩

set_option maxHeartbeats 1000000 in
theorem slmax_r (v : Value) (L : List Int) (B : Nat) (w : World) (hI : Ints w B v L) (hlim : L.length ≤ 1000000) (h1 : 1 ≤ L.length) :
    Calls Try.prog 55 #[v] w fun e w' => (∃ M, e = .returned (.int .i64 M) ∧ ∀ n, M < n ↔ ∀ x ∈ L, x < n) ∧ w = w' := by
  obtain ⟨a0, c0, rfl⟩ : ∃ a c, v = .slice a L.length c := by obtain ⟨a, c, h, _⟩ := hI; exact ⟨a, c, h⟩
  obtain ⟨n, hn⟩ : ∃ n, n = L.length := ⟨_, rfl⟩
  rw [← hn] at hI hlim h1 ⊢
  obtain ⟨b, off, rfl, hb, hc0⟩ := (ints_cell hI).2 0 (by omega)
  rw [Nat.add_zero] at hc0
  obtain ⟨y0, hy0⟩ : ∃ y, y = L.getD 0 0 := ⟨_, rfl⟩
  rw [← hy0] at hc0
  have HY0 := Lib.hid hy0
  have HN := Lib.hid hn
  have HI := Lib.hid hI
  have hn0 : (0 : Int) < (n : Int) := by omega
  have hn1 : (1 : Int) ≤ (n : Int) := by omega
  clear hn hI hy0
  go_enter Try.func55, Try.ntmps55
  go_wp2
  go_loopw [3, 4] (fun s3 s4 wr => ∃ (k : Nat) (M : Int), 1 ≤ k ∧ k ≤ n ∧ s3 = .int .i64 M ∧ s4 = .int .i64 k ∧ Hid (∀ z, M < z ↔ ∀ x ∈ L.take k, x < z) ∧ w = wr) (fun _ s4 _ => n - (intOf s4).toNat)
  case atStart =>
    refine ⟨1, y0, by omega, by omega, rfl, rfl, fun z => ?_, rfl⟩
    rw [take_snoc L 0 (by have := HN.out; omega), ← HY0.out]
    simp
  case round =>
    obtain ⟨k, M, hk1, hk, rfl, rfl, HK, rfl⟩ := hrel
    by_cases hlt : k < n
    · obtain ⟨b', off', he, hb', hc⟩ := (ints_cell HI.out).2 k hlt
      simp only [Option.some.injEq, Addr.mk.injEq, and_true] at he
      obtain ⟨rfl, rfl⟩ := he
      have k1 : (k : Int) < (n : Int) := by omega
      have k0 : (0 : Int) ≤ (k : Int) := by omega
      obtain ⟨y, hy⟩ : ∃ y, y = L.getD k 0 := ⟨_, rfl⟩
      rw [← hy] at hc
      have HF : Hid (∀ M', (M' = if M < y then y else M) → ∀ z, M' < z ↔ ∀ x ∈ L.take (k + 1), x < z) := by
        intro M' he z
        rw [take_snoc L k (by have := HN.out; omega), ← hy]
        have := HK.out z
        simp only [List.mem_append, List.mem_singleton, he]
        constructor
        · intro h x hx
          rcases hx with hx | rfl
          · refine this.1 ?_ x hx
            split at h <;> omega
          · split at h <;> omega
        · intro h
          have h2 := this.2 (fun x hx => h x (.inl hx))
          have h3 := h y (.inr rfl)
          split <;> omega
      clear hy
      go_wp2
      go_roundw
      case rel => exact ⟨k + 1, _, by omega, by omega, rfl, by go_num, HF.out _ rfl, by first | rfl | trivial⟩
      case measure => simp [intOf]; omega
    · have hle : (n : Int) ≤ (k : Int) := by omega
      have HF : Hid (∀ z, M < z ↔ ∀ x ∈ L, x < z) := fun z => by
        have := HK.out z
        rwa [List.take_of_length_le (by have := HN.out; omega)] at this
      go_wp2
      go_returns
      exact ⟨⟨_, rfl, HF.out⟩, rfl⟩

set_option maxHeartbeats 1000000 in
theorem maybeof_r (ep : Int) (v : Value) (L : List Int) (n : Int) (B : Nat) (w : World) (hI : Ints w B v L) (hB : B ≤ w.heap.size) {R : Bool} (hR : decide (ChainV.may ⟨ep, L⟩ ∧ ∀ x ∈ L, x < n) = R) :
    Calls Try.prog 51 #[.agg #[.int .i64 ep, v], .int .i64 n] w fun e w' => e = .returned (.bool R) ∧ Below w.heap.size w w' := by
  have hk : ∀ o, Ints (w.alloc o) B v L := fun o => hI.keep (((Below.refl _ w).alloc (Nat.le_refl _) o).mono hB)
  have HM : Hid (∀ o, Calls Try.prog 43 #[.agg #[.int .i64 ep, v]] (w.alloc o) fun e w' => e = .returned (.bool (decide (ChainV.may ⟨ep, L⟩))) ∧ Below (w.heap.size + 1) (w.alloc o) w') := fun o =>
    (maychain_r ep v L B (w.alloc o) (hk o) (by simp; omega) _ rfl).mono fun e w' ⟨he, h⟩ => ⟨he, by simpa using h⟩
  have HK := Lib.hid hI
  have HR := Lib.hid hR
  obtain ⟨a0, c0, rfl⟩ : ∃ a c, v = .slice a L.length c := by obtain ⟨a, c, h, _⟩ := hI; exact ⟨a, c, h⟩
  clear hI hk hR
  by_cases hm : ChainV.may ⟨ep, L⟩
  · have hl : 1 ≤ L.length ∧ L.length ≤ 5 := ⟨hm.2.2.1, hm.2.2.2.1⟩
    have hd : decide (ChainV.may ⟨ep, L⟩) = true := decide_eq_true hm
    rw [hd] at HM
    have HX : Hid (∀ u, Below w.heap.size w u → Calls Try.prog 55 #[.slice a0 L.length c0] u fun e w' => (∃ M, e = .returned (.int .i64 M) ∧ Hid (∀ n, M < n ↔ ∀ x ∈ L, x < n)) ∧ u = w') := fun u hu =>
      slmax_r _ L B u (HK.out.keep (hu.mono hB)) (by omega) hl.1
    have HM2 := Lib.hid hm
    clear hm hd hl
    go_enter Try.func51, Try.ntmps51
    go_wp2_with fail
    refine (HM.out _).mono ?_
    rintro e w1 ⟨rfl, B1⟩
    have C1 : Hid (Below w.heap.size w w1) := ((Below.refl _ w).alloc (Nat.le_refl _) _).trans (B1.mono (by omega))
    have b0 := ((ChB.fresh w ep (.slice a0 L.length c0) 26).keep B1 (by omega)).cells.2
    clear B1
    go_wp2_with fail
    refine (HX.out _ C1.out).mono ?_
    rintro e w2 ⟨⟨M, rfl, HMX⟩, rfl⟩
    go_wp2
    go_returns
    refine ⟨ret_bool ?_, C1.out⟩
    rw [← HR.out, Bool.eq_iff_iff]
    simp [HMX.out n, HM2.out]
  · have hd : decide (ChainV.may ⟨ep, L⟩) = false := decide_eq_false hm
    rw [hd] at HM
    have HF : Hid (R = false) := by show _ = _; rw [← HR.out]; exact decide_eq_false fun h => hm h.1
    clear hm hd
    go_enter Try.func51, Try.ntmps51
    go_wp2_with fail
    refine (HM.out _).mono ?_
    rintro e w1 ⟨rfl, B1⟩
    have C1 : Hid (Below w.heap.size w w1) := ((Below.refl _ w).alloc (Nat.le_refl _) _).trans (B1.mono (by omega))
    clear B1
    go_wp2
    go_returns
    exact ⟨ret_bool HF.out.symm, C1.out⟩

set_option maxHeartbeats 400000 in
theorem chturns_any (ep : Int) (a : Option Addr) (n c : Nat) (w : World) : Calls Try.prog 52 #[.agg #[.int .i64 ep, .slice a n c]] w fun e w' => e = .returned (.func (.func 56) #[] #[.pointer (some ⟨w.heap.size + 1, 0, none⟩)]) ∧ w' = (w.alloc (.cells #[.int .i64 ep, .slice a n c] 26)).alloc (.cells #[.slice a n c] 24) := by
  go_enter Try.func52, Try.ntmps52
  go_wp2
  go_returns
  exact ⟨rfl, by first | rfl | trivial⟩

/-- What is left behind him, if he is there. -/
def behindL (L : List Int) (x : Int) : List Int := if x ∈ L then L.drop (L.idxOf x + 1) else L

set_option maxHeartbeats 1000000 in
theorem chturns1_r (x : Int) (bx : Nat) (v : Value) (L : List Int) (hlim : L.length ≤ 1000000) (B : Nat) (w : World) (hb : w.heap[bx]? = some (.cells #[v] 24 (0, 0))) (hI : Ints w B v L) (hB : B ≤ bx) :
    Calls Try.prog 56 #[.int .i64 x, .pointer (some ⟨bx, 0, none⟩)] w fun e w' => e = .returned (.bool (decide (x ∈ L))) ∧ (∃ v', w'.heap[bx]? = some (.cells #[v'] 24 (0, 0)) ∧ Ints w' B v' (behindL L x)) ∧ Only (· = bx) w w' := by
  have HX := Lib.hid (slindex_r v L x B w hI hlim rfl)
  have HB := Lib.hid hb
  have HI := Lib.hid hI
  obtain ⟨a0, c0, rfl⟩ : ∃ a c, v = .slice a L.length c := by obtain ⟨a, c, h, _⟩ := hI; exact ⟨a, c, h⟩
  have b0 : w.cell? ⟨bx, 0, none⟩ = some (.slice a0 L.length c0) := cell_of_one hb
  have f0 : w.frozen? ⟨bx, 0, none⟩ = false := by simp [World.frozen?, hb]
  by_cases hx : x ∈ L
  · have hp : plcV L x = (L.idxOf x : Int) := by unfold plcV; rw [if_pos hx]
    have hl := (mem_getD hx).1
    rw [hp] at HX
    obtain ⟨k, hk⟩ : ∃ k, k = L.idxOf x := ⟨_, rfl⟩
    rw [← hk] at HX hl
    obtain ⟨a1, hrun, hI1⟩ := ints_from hI (k + 1) ((k : Int) + 1) (by omega) (by omega)
    have e1 := fun u => (hrun u).1
    have e2 := fun u => (hrun u).2
    have hbe : behindL L x = L.drop (k + 1) := by unfold behindL; rw [if_pos hx, hk]
    rw [hbe, decide_eq_true hx]
    have H1 := Lib.hid hI1
    have s1 : wrap64 ((k : Int) + 1) = (k : Int) + 1 := IntWalk.wrap64_in _ (by omega)
    clear hx hp hk hrun hI1 hbe hI hb
    go_enter Try.func56, Try.ntmps56
    go_wp2_with fail
    refine HX.out.mono ?_
    rintro e w1 ⟨rfl, rfl⟩
    go_wp2
    go_returns
    refine ⟨rfl, ⟨_, by rw [heap_setCell_same _ _ _ _ _ _ HB.out]; rfl, H1.out.keep ((Below.refl _ w).setCell (p := ⟨bx, 0, none⟩) hB _)⟩, Only.set bx 0 w _⟩
  · have hp : plcV L x = -1 := by unfold plcV; rw [if_neg hx]
    have hbe : behindL L x = L := by unfold behindL; rw [if_neg hx]
    rw [hp] at HX
    rw [hbe, decide_eq_false hx]
    clear hx hp hbe hI hb
    go_enter Try.func56, Try.ntmps56
    go_wp2_with fail
    refine HX.out.mono ?_
    rintro e w1 ⟨rfl, rfl⟩
    go_wp2
    go_returns
    exact ⟨rfl, ⟨_, HB.out, HI.out⟩, .refl _ _⟩

set_option maxHeartbeats 1000000 in
theorem maybenew_r (p x q : Int) (ep : Int) (v : Value) (L : List Int) (hlim : L.length ≤ 1000000) (B : Nat) (w : World) (hI : Ints w B v L) (hB : B ≤ w.heap.size) {R : Bool} (hR : decide (p ≠ -1 ∧ q = -1 ∧ x ∉ L) = R) :
    Calls Try.prog 54 #[.agg #[.int .i64 p, .int .i64 x, .int .i64 q], .agg #[.int .i64 ep, v]] w fun e w' => e = .returned (.bool R) ∧ Below w.heap.size w w' := by
  have HH : Hid (∀ u, Below w.heap.size w u → Calls Try.prog 60 #[.agg #[.int .i64 ep, v], .int .i64 x] u fun e w' => e = .returned (.bool (decide (x ∈ L))) ∧ Below w.heap.size w w') := fun u hu =>
    (chhas_r ep v L hlim x B u (hI.keep (hu.mono hB)) (Nat.le_trans hB hu.size) rfl).mono fun e w' ⟨he, h⟩ => ⟨he, hu.trans (h.mono hu.size)⟩
  have HR := Lib.hid hR
  clear hI hR
  have P2 : Below w.heap.size w ((w.alloc (.cells #[.int .i64 p, .int .i64 x, .int .i64 q] 93)).alloc (.cells #[.int .i64 ep, v] 26)) := by go_grown
  have HP2 := Lib.hid P2
  clear P2
  by_cases hp : p = -1
  · have HF : Hid (R = false) := by show _ = _; rw [← HR.out]; exact decide_eq_false fun h => h.1 hp
    subst hp
    go_enter Try.func54, Try.ntmps54
    go_wp2
    go_returns
    exact ⟨ret_bool HF.out.symm, HP2.out⟩
  · have hpb : (p != -1) = true := by simp [hp]
    by_cases hq : q = -1
    · have HF : Hid (R = !decide (x ∈ L)) := by
        show _ = _
        rw [← HR.out, Bool.eq_iff_iff]
        simp [hp, hq]
      subst hq
      clear hp
      go_enter Try.func54, Try.ntmps54
      go_wp2_with fail
      refine (HH.out _ HP2.out).mono ?_
      rintro e w1 ⟨rfl, B1⟩
      have C1 := Lib.hid B1
      clear B1
      go_wp2
      go_returns
      exact ⟨ret_bool (by rw [HF.out]; try simp), C1.out⟩
    · have HF : Hid (R = false) := by show _ = _; rw [← HR.out]; exact decide_eq_false fun h => hq h.2.1
      have hqb : (q == -1) = false := beq_eq_false_iff_ne.2 hq
      clear hp hq
      go_enter Try.func54, Try.ntmps54
      go_wp2
      go_returns
      exact ⟨ret_bool HF.out.symm, HP2.out⟩
end Go.Proofs.Ytiidmiioegdfaaa

/-! ## ChainD -/
/-
  THE PROGRAM's Next: which chain may follow. Of chains of at most a million nodes.
-/
namespace Go.Proofs.Ytiidmiioegdfaaa
open Go.RowKit Go.Shelf

attribute [local go_sem] Oper.semAt_some

/-- How far one has come in a's nodes behind one more of b's. -/
def nxN (A : List Int) (p : Nat) (y : SpotV) : Option Nat :=
  if y.nd ∈ A.drop p then some (p + ((A.drop p).idxOf y.nd + 1)) else if y.ab ≠ -1 ∧ y.bl = -1 ∧ y.nd ∉ A then some p else none
def runN (A : List Int) (pre : List SpotV) : Option Nat := pre.foldl (fun s y => s.bind fun p => nxN A p y) (some 0)
theorem spot_ab (L : List Int) (k : Nat) : (spotOf L k).ab = chAt L ((k : Int) - 1) := rfl
theorem runN_nil (A : List Int) : runN A [] = some 0 := rfl
theorem runN_snoc (A : List Int) (pre : List SpotV) (y : SpotV) : runN A (pre ++ [y]) = (runN A pre).bind fun p => nxN A p y := by simp [runN]
theorem run_some {A B : List Int} (hB : ∀ x ∈ B, 0 ≤ x) (h0 : 0 < B.length) : ∀ (k p : Nat), k ≤ B.length → runN A (spotsOf B k) = some p → Con A (B.take k) p ∨ (k = B.length ∧ Fol A B)
  | 0, p, _, h => by
    obtain rfl : 0 = p := by simpa [spotsOf, runN_nil] using h
    exact .inl (by simpa using con_nil A)
  | k + 1, p, hk, h => by
    rw [spotsOf_succ, runN_snoc] at h
    cases hq : runN A (spotsOf B k) with
    | none => rw [hq] at h; cases h
    | some q =>
      rw [hq] at h
      rcases run_some hB h0 k q (by omega) hq with hc | ⟨e, _⟩
      · simp only [Option.bind_some, nxN] at h
        have hnd : (spotOf B k).nd = B.getD k 0 := rfl
        rw [hnd] at h
        split at h
        · rename_i hm
          cases h
          left
          rw [take_snoc B k hk]
          exact hc.step hm
        · split at h
          · rename_i hn hx
            obtain ⟨h1, h2, h3⟩ := hx
            right
            have hk0 : 0 < k := by
              rcases Nat.eq_zero_or_pos k with e | e
              · subst e
                exact (h1 (by rw [spot_ab]; exact chAt_out (.inl (by decide)))).elim
              · exact e
            have hkl : k + 1 = B.length := by
              rcases Nat.lt_or_ge (k + 1) B.length with e | e
              · have e2 : (spotOf B k).bl = B.getD (k + 1) 0 := by
                  show chAt B ((k : Int) + 1) = _
                  rw [show (k : Int) + 1 = ((k + 1 : Nat) : Int) by omega, chAt_in e]
                rw [e2] at h2
                have := hB _ (chGet_mem e)
                omega
              · omega
            exact ⟨hkl, fol_new hk0 hkl hc h3⟩
          · cases h
      · omega
theorem run_none {A B : List Int} (hB : ∀ x ∈ B, 0 ≤ x) (h0 : 0 < B.length) : ∀ (k : Nat), k ≤ B.length → runN A (spotsOf B k) = none → ¬ Fol A B
  | 0, _, h => by simp [spotsOf, runN_nil] at h
  | k + 1, hk, h => by
    rw [spotsOf_succ, runN_snoc] at h
    cases hq : runN A (spotsOf B k) with
    | none => exact run_none hB h0 k (by omega) hq
    | some q =>
      rw [hq] at h
      rcases run_some hB h0 k q (by omega) hq with hc | ⟨e, _⟩
      · simp only [Option.bind_some, nxN] at h
        have hnd : (spotOf B k).nd = B.getD k 0 := rfl
        rw [hnd] at h
        split at h
        · cases h
        · rename_i hn
          split at h
          · cases h
          · rename_i hx
            refine fol_no (k := k) (by omega) rfl hc hn fun ⟨g1, g2, g3⟩ => hx ⟨?_, ?_, g3⟩
            · show chAt B ((k : Int) - 1) ≠ -1
              obtain ⟨j, rfl⟩ : ∃ j, k = j + 1 := ⟨k - 1, by omega⟩
              rw [show ((j + 1 : Nat) : Int) - 1 = (j : Int) by omega, chAt_in (by omega)]
              have := hB _ (chGet_mem (L := B) (k := j) (by omega))
              omega
            · exact chAt_out (.inr (by omega))
      · omega
theorem nx_in {A : List Int} {p : Nat} {y : SpotV} (h : y.nd ∈ A.drop p) : nxN A p y = some (p + ((A.drop p).idxOf y.nd + 1)) ∧ behindL (A.drop p) y.nd = A.drop (p + ((A.drop p).idxOf y.nd + 1)) := by
  unfold nxN behindL
  rw [if_pos h, if_pos h, List.drop_drop]
  exact ⟨rfl, rfl⟩
theorem nx_new {A : List Int} {p : Nat} {y : SpotV} (h : y.nd ∉ A.drop p) (hx : y.ab ≠ -1 ∧ y.bl = -1 ∧ y.nd ∉ A) : nxN A p y = some p ∧ behindL (A.drop p) y.nd = A.drop p := by
  unfold nxN behindL
  rw [if_neg h, if_neg h, if_pos hx]
  exact ⟨rfl, rfl⟩
theorem nx_no {A : List Int} {p : Nat} {y : SpotV} (h : y.nd ∉ A.drop p) (hx : ¬ (y.ab ≠ -1 ∧ y.bl = -1 ∧ y.nd ∉ A)) : nxN A p y = none := by
  unfold nxN
  rw [if_neg h, if_neg hx]

theorem keepsFrom_only {W W' : World} {bx : Nat} {cs : Array Value} {e : TypeId} {fr : Nat × Nat} (h : Only (· = bx) W W') (hb : W.heap[bx]? = some (.cells cs e fr)) (B : Nat) : KeepsFrom B W W' :=
  ⟨h.size, fun k o _ hk ho => (h.block k (Array.getElem?_eq_some_iff.1 hk).1 (fun e' => by subst e'; rw [hb] at hk; cases hk; cases ho)).trans hk⟩

theorem ints_grown {X Y : World} {row : Option Nat} {B : Nat} {v : Value} {L : List Int} (h : Ints X B v L) (hg : X.grownBy Y row) (hrow : ∀ r, row = some r → ∃ o : Obj, X.heap[r]? = some o ∧ o.isCells = false) : Ints Y B v L := by
  obtain ⟨ao, cap, rfl, h1, h2, h3, h4⟩ := h
  refine ⟨ao, cap, rfl, h1, h2, h3, fun hl => ?_⟩
  obtain ⟨b, off, rfl, hb, hc⟩ := h4 hl
  refine ⟨b, off, rfl, hb, fun j hj => ?_⟩
  have hx := hc j hj
  refine (World.cell?_of_block (a := ⟨b, off + j, none⟩) (hg.block b (World.block_lt_of_cell? X _ hx) fun e => ?_)).trans hx
  obtain ⟨o, ho, hcs⟩ := hrow b e.symm
  cases o <;> simp [World.cell?, ho, Obj.isCells] at hx hcs

/-- Both may be, and the epochs fit: what is told then. -/
theorem nextC_of {ea eb n : Int} {A L : List Int} (h1 : ChainV.may ⟨ea, A⟩ ∧ ∀ x ∈ A, x < n) (h2 : ChainV.may ⟨eb, L⟩ ∧ ∀ x ∈ L, x < n) (h3 : eb = ea + 1) : nextC ea A eb L n ↔ Fol A L :=
  ⟨fun h => h.2.2.2.2.2, fun h => ⟨h1.1, h2.1, h1.2, h2.2, h3, h⟩⟩

set_option maxRecDepth 100000 in
set_option maxHeartbeats 8000000 in
theorem chnext_in (k B : Nat) (hk : 3 ≤ k) (ea : Int) (va : Value) (A : List Int) (eb : Int) (vb : Value) (L : List Int) (n : Int) (w : World) (hIa : Ints w B va A) (hIb : Ints w B vb L) (hB : B ≤ w.heap.size)
    (h1 : ChainV.may ⟨ea, A⟩ ∧ ∀ x ∈ A, x < n) (h2 : ChainV.may ⟨eb, L⟩ ∧ ∀ x ∈ L, x < n) (h3 : eb = ea + 1) {R : Bool} (hR : decide (Fol A L) = R) :
    CallsIn Fence.wide k Try.prog 44 #[.agg #[.int .i64 ea, va], .agg #[.int .i64 eb, vb], .int .i64 n] w fun e w' => e = .returned (.bool R) ∧ Below w.heap.size w w' := by
  have hro : Fence.wide.round = none := rfl
  have hk1 : 1 ≤ k := by omega
  have hla : A.length ≤ 5 := h1.1.2.2.2.1
  have hlb : L.length ≤ 5 := h2.1.2.2.2.1
  have hpb : 1 ≤ L.length := h2.1.2.2.1
  have hnn : ∀ x ∈ L, 0 ≤ x := fun x hx => (h2.1.2.2.2.2.1 x hx).1
  have he0 : wrap64 (ea + 1) = eb := by
    rw [h3]
    have := h1.1.1
    have := h1.1.2.1
    simp only at *
    exact IntWalk.wrap64_in _ (by omega)
  have HM1 : Hid (∀ u, Below w.heap.size w u → Calls Try.prog 51 #[.agg #[.int .i64 ea, va], .int .i64 n] u fun e w' => e = .returned (.bool true) ∧ Below u.heap.size u w') := fun u hu =>
    maybeof_r ea va A n B u (hIa.keep (hu.mono hB)) (Nat.le_trans hB hu.size) (decide_eq_true h1)
  have HM2 : Hid (∀ u, Below w.heap.size w u → Calls Try.prog 51 #[.agg #[.int .i64 eb, vb], .int .i64 n] u fun e w' => e = .returned (.bool true) ∧ Below u.heap.size u w') := fun u hu =>
    maybeof_r eb vb L n B u (hIb.keep (hu.mono hB)) (Nat.le_trans hB hu.size) (decide_eq_true h2)
  have HA := Lib.hid hIa
  have HB := Lib.hid hIb
  have HR := Lib.hid hR
  have HNN := Lib.hid hnn
  obtain ⟨aa, ca, rfl⟩ : ∃ a c, va = .slice a A.length c := by obtain ⟨a, c, h, _⟩ := hIa; exact ⟨a, c, h⟩
  obtain ⟨ab, cb, rfl⟩ : ∃ a c, vb = .slice a L.length c := by obtain ⟨a, c, h, _⟩ := hIb; exact ⟨a, c, h⟩
  clear hIa hIb hR hnn h1 h2 h3
  refine callsIn_of_wp_marks Try.func44 rfl trivial ?_ hro
  simp only [Try.ntmps44, List.size_toArray, List.length_cons, List.length_nil, Nat.reduceAdd, Nat.reduceSub, Array.replicate_succ, Array.replicate_zero, List.push_toArray, List.append_toArray, List.nil_append, List.cons_append]
  gi_wp2_with fail
  obtain ⟨u0, hu0⟩ : ∃ u0, u0 = ((w.alloc (.cells #[.int .i64 ea, .slice aa A.length ca] 26)).alloc (.cells #[.int .i64 eb, .slice ab L.length cb] 26)).alloc (.cells #[.bool false] 4) := ⟨_, rfl⟩
  have U0 : Below w.heap.size w u0 := by rw [hu0]; exact (((Below.refl _ w).alloc (Nat.le_refl _) _).alloc (by simp) _).alloc (by simp; omega) _
  have us0 : u0.heap.size = w.heap.size + 3 := by rw [hu0]; simp
  have a0 : ChB u0 w.heap.size ea (.slice aa A.length ca) := by rw [hu0]; exact (ChB.fresh w ea (.slice aa A.length ca) 26).keep (((Below.refl _ _).alloc (Nat.le_refl _) _).alloc (by simp) _) (by simp)
  have b0 : ChB u0 (w.heap.size + 1) eb (.slice ab L.length cb) := by
    rw [hu0]
    have := ChB.fresh (w.alloc (.cells #[.int .i64 ea, .slice aa A.length ca] 26)) eb (.slice ab L.length cb) 26
    rw [World.size_alloc] at this
    exact this.keep ((Below.refl _ _).alloc (Nat.le_refl _) _) (by simp)
  have r0 : BoB u0 (w.heap.size + 2) false := by
    rw [hu0]
    have := heap_alloc_new ((w.alloc (.cells #[.int .i64 ea, .slice aa A.length ca] 26)).alloc (.cells #[.int .i64 eb, .slice ab L.length cb] 26)) (.cells #[.bool false] 4)
    rw [World.size_alloc, World.size_alloc] at this
    exact this
  rw [← hu0]
  clear hu0
  refine ⟨trivial, (callsIn_wide.2 (HM1.out _ U0)).mono ?_⟩
  rintro e u1 ⟨rfl, B1⟩
  have U1 := Lib.hid (U0.trans (B1.mono U0.size))
  have us1 : w.heap.size + 3 ≤ u1.heap.size := by have := B1.size; omega
  have a1 := Lib.hid (a0.keep B1 a0.lt)
  have b1 := Lib.hid (b0.keep B1 b0.lt)
  have r1 : Hid (BoB u1 (w.heap.size + 2) false) := (B1.block _ (by omega)).trans r0
  clear B1 U0 a0 b0 r0 us0
  obtain ⟨c0, c1⟩ := b1.out.cells
  gi_wp2_with fail
  refine ⟨trivial, (callsIn_wide.2 (HM2.out _ U1.out)).mono ?_⟩
  rintro e u2 ⟨rfl, B2⟩
  have U2 := Lib.hid (U1.out.trans (B2.mono U1.out.size))
  have us2 : w.heap.size + 3 ≤ u2.heap.size := by have := B2.size; omega
  have a2 := Lib.hid (a1.out.keep B2 a1.out.lt)
  have b2 := Lib.hid (b1.out.keep B2 b1.out.lt)
  have r2 : Hid (BoB u2 (w.heap.size + 2) false) := (B2.block _ (by omega)).trans r1.out
  clear B2 U1 a1 b1 r1 us1 c0 c1
  obtain ⟨c0, c1⟩ := b2.out.cells
  obtain ⟨d0, d1⟩ := a2.out.cells
  have hne : (eb != eb) = false := by simp
  gi_wp2_with fail
  refine ⟨trivial, (callsIn_wide.2 (chturns_any _ _ _ _ _)).mono ?_⟩
  rintro e w' ⟨rfl, rfl⟩
  have FX : ∀ o1 o2 o3, (((u2.alloc o1).alloc o2).alloc o3).cell? ⟨w.heap.size + 1, 0, none⟩ = some (.int .i64 eb) ∧ (((u2.alloc o1).alloc o2).alloc o3).cell? ⟨w.heap.size + 1, 1, none⟩ = some (.slice ab L.length cb) := fun o1 o2 o3 =>
    (b2.out.keep ((((Below.refl u2.heap.size u2).alloc (Nat.le_refl _) o1).alloc (by simp) o2).alloc (by simp; omega) o3) b2.out.lt).cells
  obtain ⟨f0, f1⟩ := FX (.cells #[.int .i64 ea, .slice aa A.length ca] 26) (.cells #[.slice aa A.length ca] 24) (.cells #[.func (.func 56) #[] #[.pointer (some ⟨u2.heap.size + 1, 0, none⟩)]] 44)
  clear c0 c1 d0 d1 FX
  gi_wp2_with fail
  refine ⟨trivial, (callsIn_wide.2 (chspots_any _ _ _)).mono ?_⟩
  rintro e w' ⟨rfl, rfl⟩
  gi_wp2_with fail
  clear f0 f1
  obtain ⟨q, hq⟩ : ∃ q, q = u2.heap.size := ⟨_, rfl⟩
  obtain ⟨w3, hw3⟩ : ∃ w3, w3 = (((u2.alloc (.cells #[.int .i64 ea, .slice aa A.length ca] 26)).alloc (.cells #[.slice aa A.length ca] 24)).alloc (.cells #[.func (.func 56) #[] #[.pointer (some ⟨u2.heap.size + 1, 0, none⟩)]] 44)).alloc (.cells #[.int .i64 eb, .slice ab L.length cb] 26) := ⟨_, rfl⟩
  have hs3 : w3.heap.size = q + 4 := by rw [hw3, hq]; simp
  have hU3 : Below u2.heap.size u2 w3 := by rw [hw3]; exact ((((Below.refl _ u2).alloc (Nat.le_refl _) _).alloc (by simp) _).alloc (by simp; omega) _).alloc (by simp; omega) _
  have hB3 : Below w.heap.size w w3 := U2.out.trans (hU3.mono U2.out.size)
  have a3 : ChB w3 w.heap.size ea (.slice aa A.length ca) := a2.out.keep hU3 a2.out.lt
  have r3 : BoB w3 (w.heap.size + 2) false := (hU3.block _ (by omega)).trans r2.out
  have l3 : w3.heap[q + 1]? = some (.cells #[.slice aa A.length ca] 24 (0, 0)) := by
    rw [hw3, hq]
    have h := heap_alloc_new (u2.alloc (.cells #[.int .i64 ea, .slice aa A.length ca] 26)) (.cells #[.slice aa A.length ca] 24)
    rw [World.size_alloc] at h
    exact ((((Below.refl _ _).alloc (Nat.le_refl _) _).alloc (by simp) _).block _ (by simp)).trans h
  have f3 : w3.heap[q + 2]? = some (.cells #[.func (.func 56) #[] #[.pointer (some ⟨q + 1, 0, none⟩)]] 44 (0, 0)) := by
    rw [hw3, hq]
    have h := heap_alloc_new ((u2.alloc (.cells #[.int .i64 ea, .slice aa A.length ca] 26)).alloc (.cells #[.slice aa A.length ca] 24)) (.cells #[.func (.func 56) #[] #[.pointer (some ⟨u2.heap.size + 1, 0, none⟩)]] 44)
    rw [World.size_alloc, World.size_alloc] at h
    exact (((Below.refl _ _).alloc (Nat.le_refl _) _).block _ (by simp)).trans h
  have c3 : ChB w3 (q + 3) eb (.slice ab L.length cb) := by
    rw [hw3, hq]
    have h := heap_alloc_new (((u2.alloc (.cells #[.int .i64 ea, .slice aa A.length ca] 26)).alloc (.cells #[.slice aa A.length ca] 24)).alloc (.cells #[.func (.func 56) #[] #[.pointer (some ⟨u2.heap.size + 1, 0, none⟩)]] 44)) (.cells #[.int .i64 eb, .slice ab L.length cb] 26)
    rw [World.size_alloc, World.size_alloc, World.size_alloc] at h
    exact ⟨_, h⟩
  rw [← hw3, ← hq]
  have hq2 : w.heap.size + 3 ≤ q := by omega
  clear hw3 hU3 U2 a2 b2 r2 us2 hq HM1 HM2 u2
  refine wpIn_rangeFunc_ownH hro hk1 (gf := 58) (lb := #[.pointer (some ⟨q + 3, 0, none⟩)]) rfl trivial (enters_of Try.func58 (by kernel_rfl) rfl)
    (spots_stops (k - 1) (q + 3) w.heap.size B eb (.slice ab L.length cb) w L (by omega) HB.out hB w3 (hB3.mono hB) (by omega) c3)
    (fun h k => KeepB.trans h k) (fun W l o o' hl ho h1 h2 => ⟨belowK_b (w := w3) (by omega) W l o o' hl ho h1 h2, World.putObj_heap_other (by omega)⟩) (Below.refl _ _) (fun _ => rfl)
    (fun pre W => ((∃ p v, runN A pre = some p ∧ W.heap[q + 1]? = some (.cells #[v] 24 (0, 0)) ∧ Ints W B v (A.drop p)) ∧ ChB W w.heap.size ea (.slice aa A.length ca) ∧ W.heap[q + 2]? = some (.cells #[.func (.func 56) #[] #[.pointer (some ⟨q + 1, 0, none⟩)]] 44 (0, 0)) ∧ BoB W (w.heap.size + 2) false ∧ q + 4 ≤ W.heap.size) ∧ Below w.heap.size w W)
    (fun c pre W => (c = .ret ∧ runN A pre = none ∧ BoB W (w.heap.size + 2) false) ∧ Below w.heap.size w W)
    (OwnFrom.and (fun s X Y row ⟨⟨p, v, h1, h2, h3⟩, ⟨e4, h4⟩, h5, h6, h7⟩ hg hr => ⟨⟨p, v, h1, cells_own h2 hg (fun r e => (hr r e).2), ints_grown h3 hg (fun r e => (hr r e).2)⟩, ⟨e4, cells_own h4 hg (fun r e => (hr r e).2)⟩, cells_own h5 hg (fun r e => (hr r e).2), cells_own h6 hg (fun r e => (hr r e).2), Nat.le_trans h7 hg.size⟩) (ownFrom_below (Nat.le_refl _) (by omega)))
    (fun c => OwnFrom.and (fun s X Y row ⟨h0, h1, h2⟩ hg hr => ⟨h0, h1, cells_own h2 hg (fun r e => (hr r e).2)⟩) (ownFrom_below (Nat.le_refl _) (by omega)))
    ⟨⟨⟨0, _, rfl, l3, by simpa using HA.out.keep (hB3.mono hB)⟩, a3, f3, r3, by omega⟩, hB3⟩
    (fun y a' W => ∃ Bx, SpB W Bx y ∧ a' = { tmps := #[.agg #[.int .i64 ea, .slice aa A.length ca], .agg #[.int .i64 eb, .slice ab L.length cb], .int .i64 n, .pointer (some ⟨w.heap.size, 0, none⟩), .pointer (some ⟨w.heap.size + 1, 0, none⟩), undef, .pointer (some ⟨w.heap.size + 2, 0, none⟩), .pointer (some ⟨q + 2, 0, none⟩), .pointer (some ⟨Bx, 0, none⟩),
        .agg #[.int .i64 ea, .slice aa A.length ca], .int .i64 n, .bool true, .bool false, .bool false, .agg #[.int .i64 eb, .slice ab L.length cb], .int .i64 n, .bool true, .bool false, .bool false, .bool false, .pointer (some ⟨w.heap.size + 1, 0, none⟩), .int .i64 eb, .pointer (some ⟨w.heap.size, 0, none⟩), .int .i64 ea, .int .i64 eb,
        .bool false, .bool false, .agg #[.int .i64 ea, .slice aa A.length ca], .func (.func 56) #[] #[.pointer (some ⟨q + 1, 0, none⟩)], .agg #[.int .i64 eb, .slice ab L.length cb], .func (.func 58) #[] #[.pointer (some ⟨q + 3, 0, none⟩)], y.val, undef, undef, undef, undef, undef, undef, undef, undef, undef, undef, undef], defers := [] })
    (fun y a' => fun s X Y row ⟨Bx, hbx, ha⟩ hg hr => ⟨Bx, cells_own hbx hg (fun r e => (hr r e).2), ha⟩) ?assign ?body ?done ?stop
  case assign =>
    rintro l pre y W K ⟨⟨⟨p, v, i1, i2, i3⟩, i4, i5, i6, i7⟩, hBw⟩ hK
    simp only [encSp, SpotV.val]
    gi_wp2
    have hb1 : Below W.heap.size W (W.alloc (.cells #[.int .i64 y.ab, .int .i64 y.nd, .int .i64 y.bl] 93)) := (Below.refl _ W).alloc (Nat.le_refl _) _
    exact hK _ _ ((KeepsOthers.alloc _ _).from _) (.of hb1 hBw.size (by omega)) ⟨⟨⟨p, v, i1, (hb1.block _ (by omega)).trans i2, i3.keep (hb1.mono (by omega))⟩, i4.keep hb1 i4.lt, (hb1.block _ (by omega)).trans i5, (hb1.block _ (by omega)).trans i6, by simp; omega⟩, hBw.trans (hb1.mono hBw.size)⟩ ⟨W.heap.size, heap_alloc_new W _, rfl⟩
  case body =>
    rintro l pre ⟨yp, yx, yr⟩ a' W hl ⟨rr, hr⟩ ⟨⟨⟨p, v, i1, i2, i3⟩, i4, i5, i6, i7⟩, hBw⟩ ⟨Bx, bX, rfl⟩ hlt
    obtain ⟨⟨x0, x1, x2⟩, _⟩ := bX.cells
    obtain ⟨d0, d1⟩ := i4.cells
    have g0 : W.cell? ⟨q + 2, 0, none⟩ = some (.func (.func 56) #[] #[.pointer (some ⟨q + 1, 0, none⟩)]) := cell_of_one i5
    have z0 : W.frozen? ⟨w.heap.size + 2, 0, none⟩ = false := i6.cells.2
    have HT := Lib.hid (chturns1_r yx (q + 1) v (A.drop p) (by rw [List.length_drop]; omega) B W i2 i3 (by omega))
    have I1 := Lib.hid i1
    have I2 := Lib.hid i2
    have I4 := Lib.hid i4
    have I5 := Lib.hid i5
    have I6 := Lib.hid i6
    have IX := Lib.hid bX
    have HBW := Lib.hid hBw
    have hbx := lt_of_block (show W.heap[Bx]? = _ from bX)
    have hbxn : Bx ≠ q + 1 := fun e => by subst e; have := (show W.heap[q + 1]? = _ from bX).symm.trans i2; simp at this
    clear hlt i1 i2 i3 i4 i5 i6 hr hBw bX rr hs3 hB3 a3 r3 l3 f3 c3
    dsimp only [SpotV.val] at x0 x1 x2 ⊢
    gi_wp2_with fail
    refine ⟨trivial, (fun h => by cases h), (CallsIn.inRound l (callsIn_wide.2 HT.out)).mono ?_⟩
    rintro e W1 ⟨rfl, ⟨v1, l1, I31⟩, o1⟩
    have HO := Lib.hid o1
    have HL := Lib.hid l1
    have HV := Lib.hid I31
    have hsz := o1.size
    have hbel : Below w.heap.size w W1 := o1.below HBW.out (fun x hx => by omega) (by omega)
    have HBL := Lib.hid hbel
    have hkb : KeepB w.heap.size (q + 3) W W1 := ⟨o1.below (Below.refl _ _) (fun x hx => by omega) (by omega), o1.block _ (by omega) (by omega)⟩
    have HKB := Lib.hid hkb
    have HKF := Lib.hid (keepsFrom_only o1 I2.out w3.heap.size)
    have J4 : Hid (ChB W1 w.heap.size ea (.slice aa A.length ca)) := by obtain ⟨e4, h4⟩ := I4.out; exact ⟨e4, (o1.block _ (by omega) (by omega)).trans h4⟩
    have J5 : Hid (W1.heap[q + 2]? = some (.cells #[.func (.func 56) #[] #[.pointer (some ⟨q + 1, 0, none⟩)]] 44 (0, 0))) := (o1.block _ (by omega) (by omega)).trans I5.out
    have J6 : Hid (BoB W1 (w.heap.size + 2) false) := (o1.block _ (by omega) (by omega)).trans I6.out
    have JX : Hid (SpB W1 Bx ⟨yp, yx, yr⟩) := (o1.block _ hbx hbxn).trans IX.out
    clear x0 x1 x2 d0 d1 g0 z0 o1 l1 I31 hbel hkb HT
    by_cases hin : yx ∈ A.drop p
    · rw [decide_eq_true hin]
      have hx := nx_in (y := ⟨yp, yx, yr⟩) hin
      have hrn : Hid (runN A (pre ++ [⟨yp, yx, yr⟩]) = some (p + ((A.drop p).idxOf yx + 1))) := by show _ = _; rw [runN_snoc, I1.out]; exact hx.1
      have hbe : Hid (Ints W1 B v1 (A.drop (p + ((A.drop p).idxOf yx + 1)))) := by show Ints _ _ _ _; rw [← hx.2]; exact HV.out
      clear hin hx
      gi_wp2_with fail
      refine ⟨trivial, ?_⟩
      gi_wp2
      exact ⟨HKF.out, HKB.out, ⟨⟨_, v1, hrn.out, HL.out, hbe.out⟩, J4.out, J5.out, J6.out, by omega⟩, HBL.out⟩
    · rw [decide_eq_false hin]
      obtain ⟨⟨x0, x1, x2⟩, _⟩ := JX.out.cells
      obtain ⟨d0, d1⟩ := J4.out.cells
      dsimp only [SpotV.val] at x0 x1 x2
      have hbe0 : behindL (A.drop p) yx = A.drop p := by unfold behindL; rw [if_neg hin]
      have hbe : Hid (Ints W1 B v1 (A.drop p)) := by show Ints _ _ _ _; rw [← hbe0]; exact HV.out
      have HN := Lib.hid (maybenew_r yp yx yr ea (.slice aa A.length ca) A (by omega) B W1 (HA.out.keep (HBL.out.mono hB)) (by omega) rfl)
      by_cases hnew : yp ≠ -1 ∧ yr = -1 ∧ yx ∉ A
      · rw [decide_eq_true hnew] at HN
        have hrn : Hid (runN A (pre ++ [⟨yp, yx, yr⟩]) = some p) := by show _ = _; rw [runN_snoc, I1.out]; exact (nx_new (y := ⟨yp, yx, yr⟩) hin hnew).1
        clear hin hnew hbe0
        gi_wp2_with fail
        refine ⟨trivial, (fun h => by cases h), (CallsIn.inRound l (callsIn_wide.2 HN.out)).mono ?_⟩
        rintro e W2 ⟨rfl, B2⟩
        have hkw : KeepsFrom w3.heap.size W1 W2 := ⟨B2.size, fun k o _ hk _ => (B2.block k (Array.getElem?_eq_some_iff.1 hk).1).trans hk⟩
        have HKF2 := Lib.hid (HKF.out.trans hkw)
        have HKB2 := Lib.hid (HKB.out.trans (.of B2 (by omega) (by omega)))
        have HC := Lib.hid B2
        have hs2 := B2.size
        clear B2 hkw x0 x1 x2 d0 d1
        gi_wp2
        exact ⟨HKF2.out, HKB2.out, ⟨⟨_, v1, hrn.out, (HC.out.block _ (by omega)).trans HL.out, hbe.out.keep (HC.out.mono (by omega))⟩, J4.out.keep HC.out J4.out.lt, (HC.out.block _ (by omega)).trans J5.out, (HC.out.block _ (by omega)).trans J6.out, by omega⟩, HBL.out.trans (HC.out.mono (by omega))⟩
      · rw [decide_eq_false hnew] at HN
        have hrn : Hid (runN A (pre ++ [⟨yp, yx, yr⟩]) = none) := by show _ = _; rw [runN_snoc, I1.out]; exact nx_no (y := ⟨yp, yx, yr⟩) hin hnew
        clear hin hnew hbe0
        gi_wp2_with fail
        refine ⟨trivial, (fun h => by cases h), (CallsIn.inRound l (callsIn_wide.2 HN.out)).mono ?_⟩
        rintro e W2 ⟨rfl, B2⟩
        have hkw : KeepsFrom w3.heap.size W1 W2 := ⟨B2.size, fun k o _ hk _ => (B2.block k (Array.getElem?_eq_some_iff.1 hk).1).trans hk⟩
        have HKF2 := Lib.hid (HKF.out.trans hkw)
        have HC := Lib.hid B2
        have r2 : BoB W2 (w.heap.size + 2) false := (B2.block _ (by omega)).trans J6.out
        have HR2 := Lib.hid r2
        obtain ⟨y0, z0⟩ := r2.cells
        have hs2 := B2.size
        clear B2 hkw x0 x1 x2 d0 d1 r2
        gi_wp2
        exact ⟨HKF2.out.trans ((KeepsOthers.setCell _ _ _).from _), ⟨rfl, hrn.out, by show _ = _; rw [heap_setCell_same _ _ _ _ _ _ HR2.out]; rfl⟩, (HBL.out.trans (HC.out.mono (by omega))).setCell (p := ⟨w.heap.size + 2, 0, none⟩) (by simp) _⟩
  case done =>
    rintro D ys W hD rfl ⟨⟨⟨p, v, i1, i2, i3⟩, i4, i5, i6, i7⟩, hBw⟩ hK
    have hF : Fol A L := by
      rcases run_some HNN.out (by omega) L.length p (Nat.le_refl _) i1 with h | ⟨_, h⟩
      · rw [List.take_length] at h; exact fol_all (by omega) h
      · exact h
    obtain rfl : R = true := by rw [← HR.out]; exact decide_eq_true hF
    obtain ⟨y0, z0⟩ := i6.cells
    have I6 := Lib.hid i6
    have HBW := Lib.hid hBw
    have hK4 : (W.setCell ⟨w.heap.size + 2, 0, none⟩ (.bool true)).heap[D]? = _ := (KeepsOthers.setCell W ⟨w.heap.size + 2, 0, none⟩ (.bool true)).same D _ hK rfl
    clear i1 i2 i3 i4 i5 i6 hF hBw hK
    gi_wp2
    refine ⟨by simp, .inl ⟨_, _, rfl, run_takeDeferred hK4, ?_⟩⟩
    have r5 : BoB (W.setCell ⟨w.heap.size + 2, 0, none⟩ (.bool true)) (w.heap.size + 2) true := by show _ = _; rw [heap_setCell_same _ _ _ _ _ _ I6.out]; rfl
    have hq5 : BoB ((W.setCell ⟨w.heap.size + 2, 0, none⟩ (.bool true)).putObj D (.deferred none)) (w.heap.size + 2) true := cells_own r5 (grownBy_putObj' _ D (.deferred none)) (fun r e => by cases e; exact ⟨_, hK4, rfl⟩)
    obtain ⟨e3, _⟩ := hq5.cells
    refine ⟨.bool true, ?_, rfl, (HBW.out.setCell (p := ⟨w.heap.size + 2, 0, none⟩) (by simp) _).trans (belowK_b (w := w) (Nat.le_refl _) _ D _ _ (by omega) hK4 rfl rfl)⟩
    simp [results, Try.results44, go_sem, e3]
  case stop =>
    rintro D c pre W _ ⟨j, hj, hp⟩ ⟨⟨rfl, h1, h2⟩, hBw⟩ hK
    rw [hp] at h1
    have hF := run_none HNN.out (by omega) j hj h1
    obtain rfl : R = false := by rw [← HR.out]; exact decide_eq_false hF
    clear h1 hF hp
    gi_wp2
    refine ⟨by simp, .inl ⟨_, _, rfl, run_takeDeferred hK, ?_⟩⟩
    have hq5 : BoB (W.putObj D (.deferred none)) (w.heap.size + 2) false := cells_own h2 (grownBy_putObj' _ D (.deferred none)) (fun r e => by cases e; exact ⟨_, hK, rfl⟩)
    obtain ⟨e3, _⟩ := hq5.cells
    refine ⟨.bool false, ?_, rfl, hBw.trans (belowK_b (w := w) (Nat.le_refl _) _ D _ _ (by omega) hK rfl rfl)⟩
    simp [results, Try.results44, go_sem, e3]

set_option maxRecDepth 100000 in
set_option maxHeartbeats 4000000 in
theorem chnext_not (ea : Int) (va : Value) (A : List Int) (eb : Int) (vb : Value) (L : List Int) (n : Int) (B : Nat) (w : World) (hIa : Ints w B va A) (hIb : Ints w B vb L) (hB : B ≤ w.heap.size)
    (hno : ¬ ((ChainV.may ⟨ea, A⟩ ∧ ∀ x ∈ A, x < n) ∧ (ChainV.may ⟨eb, L⟩ ∧ ∀ x ∈ L, x < n) ∧ eb = ea + 1)) :
    Calls Try.prog 44 #[.agg #[.int .i64 ea, va], .agg #[.int .i64 eb, vb], .int .i64 n] w fun e w' => e = .returned (.bool false) ∧ Below w.heap.size w w' := by
  obtain ⟨aa, ca, rfl⟩ : ∃ a c, va = .slice a A.length c := by obtain ⟨a, c, h, _⟩ := hIa; exact ⟨a, c, h⟩
  obtain ⟨ab, cb, rfl⟩ : ∃ a c, vb = .slice a L.length c := by obtain ⟨a, c, h, _⟩ := hIb; exact ⟨a, c, h⟩
  have U0 : Hid (Below w.heap.size w (((w.alloc (.cells #[.int .i64 ea, .slice aa A.length ca] 26)).alloc (.cells #[.int .i64 eb, .slice ab L.length cb] 26)).alloc (.cells #[.bool false] 4))) :=
    (((Below.refl _ w).alloc (Nat.le_refl _) _).alloc (by simp) _).alloc (by simp; omega) _
  have a0 : Hid (ChB (((w.alloc (.cells #[.int .i64 ea, .slice aa A.length ca] 26)).alloc (.cells #[.int .i64 eb, .slice ab L.length cb] 26)).alloc (.cells #[.bool false] 4)) w.heap.size ea (.slice aa A.length ca)) :=
    (ChB.fresh w ea (.slice aa A.length ca) 26).keep (((Below.refl _ _).alloc (Nat.le_refl _) _).alloc (by simp) _) (by simp)
  have b0 : Hid (ChB (((w.alloc (.cells #[.int .i64 ea, .slice aa A.length ca] 26)).alloc (.cells #[.int .i64 eb, .slice ab L.length cb] 26)).alloc (.cells #[.bool false] 4)) (w.heap.size + 1) eb (.slice ab L.length cb)) := by
    have := ChB.fresh (w.alloc (.cells #[.int .i64 ea, .slice aa A.length ca] 26)) eb (.slice ab L.length cb) 26
    rw [World.size_alloc] at this
    exact this.keep ((Below.refl _ _).alloc (Nat.le_refl _) _) (by simp)
  have r0 : Hid (BoB (((w.alloc (.cells #[.int .i64 ea, .slice aa A.length ca] 26)).alloc (.cells #[.int .i64 eb, .slice ab L.length cb] 26)).alloc (.cells #[.bool false] 4)) (w.heap.size + 2) false) := by
    have := heap_alloc_new ((w.alloc (.cells #[.int .i64 ea, .slice aa A.length ca] 26)).alloc (.cells #[.int .i64 eb, .slice ab L.length cb] 26)) (.cells #[.bool false] 4)
    rw [World.size_alloc, World.size_alloc] at this
    exact this
  have HM1 : Hid (∀ u, Below w.heap.size w u → Calls Try.prog 51 #[.agg #[.int .i64 ea, .slice aa A.length ca], .int .i64 n] u fun e w' => e = .returned (.bool (decide (ChainV.may ⟨ea, A⟩ ∧ ∀ x ∈ A, x < n))) ∧ Below u.heap.size u w') := fun u hu =>
    maybeof_r ea _ A n B u (hIa.keep (hu.mono hB)) (Nat.le_trans hB hu.size) rfl
  have HM2 : Hid (∀ u, Below w.heap.size w u → Calls Try.prog 51 #[.agg #[.int .i64 eb, .slice ab L.length cb], .int .i64 n] u fun e w' => e = .returned (.bool (decide (ChainV.may ⟨eb, L⟩ ∧ ∀ x ∈ L, x < n))) ∧ Below u.heap.size u w') := fun u hu =>
    maybeof_r eb _ L n B u (hIb.keep (hu.mono hB)) (Nat.le_trans hB hu.size) rfl
  clear hIa hIb
  by_cases h1 : ChainV.may ⟨ea, A⟩ ∧ ∀ x ∈ A, x < n
  case neg =>
    rw [decide_eq_false h1] at HM1
    clear h1 hno HM2
    go_enter Try.func44, Try.ntmps44
    go_wp2_with fail
    refine (HM1.out _ U0.out).mono ?_
    rintro e w1 ⟨rfl, B1⟩
    have U1 := Lib.hid (U0.out.trans (B1.mono U0.out.size))
    have r1 : Hid (BoB w1 (w.heap.size + 2) false) := (B1.block _ (by simp)).trans r0.out
    clear B1
    obtain ⟨c0, f0⟩ := r1.out.cells
    go_wp2
    refine bodyPost_ret (v := .bool false) (by simp [results, Try.results44, go_sem, c0]) rfl ⟨rfl, (U1.out.setCell (p := ⟨w.heap.size + 2, 0, none⟩) (by simp) _)⟩
  case pos =>
    rw [decide_eq_true h1] at HM1
    by_cases h2 : ChainV.may ⟨eb, L⟩ ∧ ∀ x ∈ L, x < n
    case neg =>
      rw [decide_eq_false h2] at HM2
      clear h1 h2 hno
      go_enter Try.func44, Try.ntmps44
      go_wp2_with fail
      refine (HM1.out _ U0.out).mono ?_
      rintro e w1 ⟨rfl, B1⟩
      have U1 := Lib.hid (U0.out.trans (B1.mono U0.out.size))
      have us1 : w.heap.size + 3 ≤ w1.heap.size := by have := B1.size; simp at this; omega
      have r1 : Hid (BoB w1 (w.heap.size + 2) false) := (B1.block _ (by simp)).trans r0.out
      have b1 := Lib.hid (b0.out.keep B1 b0.out.lt)
      clear B1
      obtain ⟨d0, d1⟩ := b1.out.cells
      go_wp2_with fail
      refine (HM2.out _ U1.out).mono ?_
      rintro e w2 ⟨rfl, B2⟩
      have U2 := Lib.hid (U1.out.trans (B2.mono U1.out.size))
      have r2 : Hid (BoB w2 (w.heap.size + 2) false) := (B2.block _ (by omega)).trans r1.out
      clear B2 d0 d1
      obtain ⟨c0, f0⟩ := r2.out.cells
      go_wp2
      refine bodyPost_ret (v := .bool false) (by simp [results, Try.results44, go_sem, c0]) rfl ⟨rfl, (U2.out.setCell (p := ⟨w.heap.size + 2, 0, none⟩) (by simp) _)⟩
    case pos =>
      rw [decide_eq_true h2] at HM2
      have hne : eb ≠ ea + 1 := fun e => hno ⟨h1, h2, e⟩
      have he0 : wrap64 (ea + 1) = ea + 1 := by
        have := h1.1.1
        have := h1.1.2.1
        simp only at *
        exact IntWalk.wrap64_in _ (by omega)
      have hneb : (eb != ea + 1) = true := by simp [hne]
      clear h1 h2 hno hne
      go_enter Try.func44, Try.ntmps44
      go_wp2_with fail
      refine (HM1.out _ U0.out).mono ?_
      rintro e w1 ⟨rfl, B1⟩
      have U1 := Lib.hid (U0.out.trans (B1.mono U0.out.size))
      have us1 : w.heap.size + 3 ≤ w1.heap.size := by have := B1.size; simp at this; omega
      have r1 : Hid (BoB w1 (w.heap.size + 2) false) := (B1.block _ (by simp)).trans r0.out
      have b1 := Lib.hid (b0.out.keep B1 b0.out.lt)
      have a1 := Lib.hid (a0.out.keep B1 a0.out.lt)
      clear B1
      obtain ⟨d0, d1⟩ := b1.out.cells
      go_wp2_with fail
      refine (HM2.out _ U1.out).mono ?_
      rintro e w2 ⟨rfl, B2⟩
      have U2 := Lib.hid (U1.out.trans (B2.mono U1.out.size))
      have r2 : Hid (BoB w2 (w.heap.size + 2) false) := (B2.block _ (by omega)).trans r1.out
      have b2 := Lib.hid (b1.out.keep B2 b1.out.lt)
      have a2 := Lib.hid (a1.out.keep B2 a1.out.lt)
      clear B2 d0 d1
      obtain ⟨c0, f0⟩ := r2.out.cells
      obtain ⟨d0, d1⟩ := b2.out.cells
      obtain ⟨g0, g1⟩ := a2.out.cells
      go_wp2
      refine bodyPost_ret (v := .bool false) (by simp [results, Try.results44, go_sem, c0]) rfl ⟨rfl, (U2.out.setCell (p := ⟨w.heap.size + 2, 0, none⟩) (by simp) _)⟩

theorem chnext_r (ea : Int) (va : Value) (A : List Int) (eb : Int) (vb : Value) (L : List Int) (n : Int) (B : Nat) (w : World) (hIa : Ints w B va A) (hIb : Ints w B vb L) (hB : B ≤ w.heap.size) {R : Bool} (hR : decide (nextC ea A eb L n) = R) :
    Calls Try.prog 44 #[.agg #[.int .i64 ea, va], .agg #[.int .i64 eb, vb], .int .i64 n] w fun e w' => e = .returned (.bool R) ∧ Below w.heap.size w w' := by
  by_cases h : (ChainV.may ⟨ea, A⟩ ∧ ∀ x ∈ A, x < n) ∧ (ChainV.may ⟨eb, L⟩ ∧ ∀ x ∈ L, x < n) ∧ eb = ea + 1
  · refine callsIn_wide.1 (chnext_in 3 B (Nat.le_refl _) ea va A eb vb L n w hIa hIb hB h.1 h.2.1 h.2.2 ?_)
    rw [← hR, decide_eq_decide]
    exact (nextC_of h.1 h.2.1 h.2.2).symm
  · obtain rfl : R = false := by
      rw [← hR]
      exact decide_eq_false fun k => h ⟨⟨k.1, k.2.2.1⟩, ⟨k.2.1, k.2.2.2.1⟩, k.2.2.2.2.1⟩
    exact chnext_not ea va A eb vb L n B w hIa hIb hB h
end Go.Proofs.Ytiidmiioegdfaaa
