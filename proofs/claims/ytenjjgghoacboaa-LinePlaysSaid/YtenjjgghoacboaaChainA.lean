/-
  THE PROGRAM's CHAIN: its order, its asks. Merged by gen/cat.sh.
-/
import Derived.Test.YtenjjgghoacboaaItemC
import Derived.Test.YtenjjgghoacboaaPackBase
import Derived.Laws.EntriesVeiled
/-! ## ChainV -/
/-
  CHAINS AS PLAIN DATA: who stands where, which one may follow, what is left without some. No condition.
-/
namespace Go.Proofs.Ytenjjgghoacboaa

/-- Who stands at a place; -1: nobody. -/
def chAt (L : List Int) (k : Int) : Int := if 0 ≤ k ∧ k < L.length then L.getD k.toNat 0 else -1
theorem chAt_in {L : List Int} {k : Nat} (h : k < L.length) : chAt L (k : Int) = L.getD k 0 := by
  unfold chAt
  rw [if_pos (by omega)]
  simp
theorem chAt_out {L : List Int} {k : Int} (h : k < 0 ∨ (L.length : Int) ≤ k) : chAt L k = -1 := by
  unfold chAt
  rw [if_neg (by omega)]
theorem chGet_mem {L : List Int} {k : Nat} (h : k < L.length) : L.getD k 0 ∈ L := by
  rw [show L.getD k 0 = L[k] by simp [List.getD, h]]
  exact List.getElem_mem h
theorem split_get {L : List Int} {k : Nat} (h : k < L.length) : L = L.take k ++ L.getD k 0 :: L.drop (k + 1) := by
  conv => lhs; rw [← List.take_append_drop k L]
  rw [List.drop_eq_getElem_cons h]
  simp [List.getD, h]
theorem mem_getD {L : List Int} {x : Int} (h : x ∈ L) : L.idxOf x < L.length ∧ L.getD (L.idxOf x) 0 = x := by
  have h1 := List.idxOf_lt_length_iff.2 h
  refine ⟨h1, ?_⟩
  rw [show L.getD (L.idxOf x) 0 = L[L.idxOf x] by simp [List.getD, h1]]
  exact List.getElem_idxOf h1

theorem idx_ne {x y : Int} (l : List Int) (h : y ≠ x) : (y :: l).idxOf x = l.idxOf x + 1 := by
  rw [List.idxOf_cons, beq_eq_false_iff_ne.2 h]
  rfl
/-- Where a node stands, the first time; -1. -/
def plcV (L : List Int) (x : Int) : Int := if x ∈ L then (L.idxOf x : Int) else -1
/-- Who stands ahead of it, behind it; -1: nobody. -/
def abvV (L : List Int) (x : Int) : Int := if x ∈ L then chAt L ((L.idxOf x : Int) - 1) else -1
def blwV (L : List Int) (x : Int) : Int := if x ∈ L then chAt L ((L.idxOf x : Int) + 1) else -1

theorem idx_first {L : List Int} {k : Nat} {x : Int} (hk : k < L.length) (hx : L.getD k 0 = x) (hn : x ∉ L.take k) : x ∈ L ∧ L.idxOf x = k := by
  have e := split_get hk
  rw [hx] at e
  refine ⟨by rw [e]; simp, ?_⟩
  conv => lhs; rw [e]
  rw [List.idxOf_append, if_neg hn]
  simp
  omega
theorem not_first {L : List Int} {k : Nat} {x : Int} (hk : L.length ≤ k) (hn : x ∉ L.take k) : x ∉ L := by
  rwa [List.take_of_length_le hk] at hn
theorem not_take {L : List Int} {k : Nat} {x : Int} (hk : k < L.length) (hn : x ∉ L.take k) (hx : L.getD k 0 ≠ x) : x ∉ L.take (k + 1) := by
  rw [take_snoc L k hk, List.mem_append, List.mem_singleton]
  rintro (h | h)
  · exact hn h
  · exact hx h.symm
theorem nodup_first {L : List Int} (hL : L.Nodup) {k : Nat} (hk : k < L.length) : L.idxOf (L.getD k 0) = k := by
  refine (idx_first hk rfl fun h => ?_).2
  have e := split_get hk
  have hL' := hL
  rw [e, List.nodup_append] at hL'
  exact hL'.2.2 _ h _ (List.mem_cons_self) rfl

theorem not_take_idx {L : List Int} {x : Int} : x ∉ L.take (L.idxOf x) := fun h => by
  have e := List.take_append_drop (L.idxOf x) L
  have h1 : (L.take (L.idxOf x) ++ L.drop (L.idxOf x)).idxOf x = (L.take (L.idxOf x)).idxOf x := by rw [List.idxOf_append, if_pos h]
  rw [e] at h1
  have h2 := List.idxOf_lt_length_iff.2 h
  rw [← h1, List.length_take] at h2
  omega
theorem in_drop {L : List Int} {x : Int} (hx : x ∈ L) {p : Nat} (hp : p ≤ L.idxOf x) : x ∈ L.drop p ∧ p + (L.drop p).idxOf x = L.idxOf x := by
  obtain ⟨h1, h2⟩ := mem_getD hx
  have hg : (L.drop p).getD (L.idxOf x - p) 0 = x := by
    rw [List.getD_eq_getElem?_getD, List.getElem?_drop, show p + (L.idxOf x - p) = L.idxOf x by omega, ← List.getD_eq_getElem?_getD]
    exact h2
  have := idx_first (L := L.drop p) (k := L.idxOf x - p) (x := x) (by rw [List.length_drop]; omega) hg (fun h => by
    rw [← List.drop_take] at h
    exact not_take_idx (List.mem_of_mem_drop h))
  exact ⟨this.1, by omega⟩
theorem not_drop {L : List Int} (hL : L.Nodup) {x : Int} (hx : x ∈ L) {p : Nat} (hp : L.idxOf x < p) : x ∉ L.drop p := fun h => by
  have e := List.take_append_drop p L
  rw [← e, List.nodup_append] at hL
  obtain ⟨h1, h2⟩ := mem_getD hx
  refine hL.2.2 x ?_ x h rfl
  rw [List.mem_take_iff_getElem]
  refine ⟨L.idxOf x, by omega, ?_⟩
  exact List.getElem_idxOf h1
/-- Behind what was taken: what may still come is some of what is left. -/
def Con (A S : List Int) (p : Nat) : Prop := ∀ R : List Int, (S ++ R).Sublist A ↔ R.Sublist (A.drop p)
theorem con_nil (A : List Int) : Con A [] 0 := fun R => by simp
theorem greedy (x : Int) (R : List Int) : ∀ (l : List Int), (x :: R).Sublist l ↔ x ∈ l ∧ R.Sublist (l.drop (l.idxOf x + 1))
  | [] => by simp
  | y :: l => by
    by_cases h : y = x
    · subst h
      simp
    · rw [idx_ne _ h, List.drop_succ_cons]
      have ih := greedy x R l
      constructor
      · intro hs
        have : (x :: R).Sublist l := by
          cases hs with
          | cons _ hs => exact hs
          | cons_cons _ hs => exact absurd rfl h
        exact ⟨List.mem_cons_of_mem _ (ih.1 this).1, (ih.1 this).2⟩
      · rintro ⟨hm, hs⟩
        have hm' : x ∈ l := by
          rcases List.mem_cons.1 hm with h' | h'
          · exact absurd h'.symm h
          · exact h'
        exact (ih.2 ⟨hm', hs⟩).cons _
theorem Con.step {A S : List Int} {p : Nat} (h : Con A S p) {x : Int} (hx : x ∈ A.drop p) : Con A (S ++ [x]) (p + ((A.drop p).idxOf x + 1)) := fun R => by
  rw [List.append_assoc, List.singleton_append, h, greedy, List.drop_drop]
  exact ⟨fun h => h.2, fun h => ⟨hx, h⟩⟩
theorem Con.none {A S : List Int} {p : Nat} (h : Con A S p) {x : Int} (hx : x ∉ A.drop p) (R : List Int) : ¬ (S ++ x :: R).Sublist A := fun hs => by
  rw [h, greedy] at hs
  exact hx hs.1
theorem Con.sub {A S : List Int} {p : Nat} (h : Con A S p) : S.Sublist A := by
  have := (h []).2 (List.nil_sublist _)
  simpa using this

/-- b's nodes are some of a's, at least one, in their order, and behind them perhaps one that a has not. -/
def Fol (A B : List Int) : Prop := (B ≠ [] ∧ B.Sublist A) ∨ (2 ≤ B.length ∧ (B.take (B.length - 1)).Sublist A ∧ B.getD (B.length - 1) 0 ∉ A)
instance (A B : List Int) : Decidable (Fol A B) := by unfold Fol; infer_instance
theorem fol_no {A B : List Int} {k p : Nat} {x : Int} (hk : k < B.length) (hx : B.getD k 0 = x) (hc : Con A (B.take k) p) (hn : x ∉ A.drop p) (h : ¬ (0 < k ∧ k + 1 = B.length ∧ x ∉ A)) : ¬ Fol A B := by
  rintro (⟨_, hs⟩ | ⟨h2, hs, hl⟩)
  · have e := split_get hk
    rw [hx] at e
    rw [e] at hs
    exact hc.none hn _ hs
  · by_cases hlt : k + 1 = B.length
    · have : B.length - 1 = k := by omega
      rw [this, hx] at hl
      exact h ⟨by omega, hlt, hl⟩
    · have h1 : (B.take (k + 1)).Sublist (B.take (B.length - 1)) := (List.take_prefix_take_left (by omega)).sublist
      rw [take_snoc B k hk, hx] at h1
      exact hc.none hn [] (h1.trans hs)
theorem fol_all {A B : List Int} {p : Nat} (hB : 0 < B.length) (hc : Con A B p) : Fol A B := .inl ⟨fun h => by rw [h] at hB; simp at hB, hc.sub⟩
theorem fol_new {A B : List Int} {k p : Nat} (hk : 0 < k) (hl : k + 1 = B.length) (hc : Con A (B.take k) p) (hn : B.getD k 0 ∉ A) : Fol A B := by
  refine .inr ⟨by omega, ?_, ?_⟩
  · rw [show B.length - 1 = k by omega]; exact hc.sub
  · rw [show B.length - 1 = k by omega]; exact hn

/-- May b follow a in a cluster of n nodes? -/
def nextC (ea : Int) (A : List Int) (eb : Int) (B : List Int) (n : Int) : Prop :=
  ChainV.may ⟨ea, A⟩ ∧ ChainV.may ⟨eb, B⟩ ∧ (∀ x ∈ A, x < n) ∧ (∀ x ∈ B, x < n) ∧ eb = ea + 1 ∧ Fol A B
instance (ea : Int) (A : List Int) (eb : Int) (B : List Int) (n : Int) : Decidable (nextC ea A eb B n) := by unfold nextC; infer_instance

/-- Two stand in a row one behind the other, so in any row of which it is some. -/
theorem sub_two {u v : Int} : ∀ {A : List Int}, A.Nodup → [u, v].Sublist A → u ∈ A ∧ v ∈ A ∧ A.idxOf u < A.idxOf v
  | [], _, h => by cases h
  | y :: A, hA, h => by
    rw [List.nodup_cons] at hA
    cases h with
    | cons _ h =>
      obtain ⟨h1, h2, h3⟩ := sub_two hA.2 h
      have nu : y ≠ u := fun e => hA.1 (e ▸ h1)
      have nv : y ≠ v := fun e => hA.1 (e ▸ h2)
      rw [idx_ne _ nu, idx_ne _ nv]
      exact ⟨List.mem_cons_of_mem _ h1, List.mem_cons_of_mem _ h2, by omega⟩
    | cons_cons _ h =>
      have hv : v ∈ A := List.singleton_sublist.1 h
      have nv : u ≠ v := fun e => hA.1 (e ▸ hv)
      rw [List.idxOf_cons_self, idx_ne _ nv]
      exact ⟨List.mem_cons_self, List.mem_cons_of_mem _ hv, by omega⟩
theorem chTwo_of {B : List Int} {m : Nat} (h : m + 1 < B.length) : [B.getD m 0, B.getD (m + 1) 0].Sublist B := by
  have e1 := split_get (L := B) (k := m) (by omega)
  have e2 : B.drop (m + 1) = B.getD (m + 1) 0 :: B.drop (m + 2) := by
    rw [List.drop_eq_getElem_cons h]
    simp [List.getD, h]
  rw [e2] at e1
  rw [e1]
  refine List.Sublist.trans ?_ (List.sublist_append_right _ _)
  rw [← e1]
  exact .cons_cons _ (.cons_cons _ (List.nil_sublist _))
/-- Who stays has those above it that it had, or some of them. -/
theorem fol_keeps {A B : List Int} (hF : Fol A B) (hA : A.Nodup) {m0 : Nat} (h0 : m0 < B.length) (hin : B.getD m0 0 ∈ A) {m : Nat} (hm : m + 1 ≤ m0) :
    B.getD m 0 ∈ A ∧ B.getD (m + 1) 0 ∈ A ∧ A.idxOf (B.getD m 0) < A.idxOf (B.getD (m + 1) 0) := by
  have hs : (B.take (m0 + 1)).Sublist A := by
    rcases hF with ⟨_, hs⟩ | ⟨_, hs, hl⟩
    · exact (List.take_sublist _ _).trans hs
    · by_cases he : m0 = B.length - 1
      · rw [he] at hin; exact absurd hin hl
      · exact ((List.take_prefix_take_left (by omega)).sublist).trans hs
  have ht := chTwo_of (B := B.take (m0 + 1)) (m := m) (by rw [List.length_take]; omega)
  have e1 : (B.take (m0 + 1)).getD m 0 = B.getD m 0 := by
    rw [List.getD_eq_getElem?_getD, List.getD_eq_getElem?_getD, List.getElem?_take, if_pos (by omega)]
  have e2 : (B.take (m0 + 1)).getD (m + 1) 0 = B.getD (m + 1) 0 := by
    rw [List.getD_eq_getElem?_getD, List.getD_eq_getElem?_getD, List.getElem?_take, if_pos (by omega)]
  rw [e1, e2] at ht
  exact sub_two hA (ht.trans hs)

/-- Those that are left without some. -/
def leftL (A l : List Int) : List Int := A.filter fun x => !l.contains x
theorem leftL_nil (l : List Int) : leftL [] l = [] := rfl
theorem leftL_snoc_in {A l : List Int} {x : Int} (h : x ∈ l) : leftL (A ++ [x]) l = leftL A l := by simp [leftL, h]
theorem leftL_snoc_out {A l : List Int} {x : Int} (h : x ∉ l) : leftL (A ++ [x]) l = leftL A l ++ [x] := by simp [leftL, h]
theorem leftL_sub (A l : List Int) : (leftL A l).Sublist A := List.filter_sublist
theorem leftL_len (A l : List Int) : (leftL A l).length ≤ A.length := List.length_filter_le _ _
theorem nodesOk_sub {A B : List Int} (h : B.Sublist A) (ha : nodesOk A) : nodesOk B := ⟨fun x hx => ha.1 x (h.subset hx), ha.2.sublist h⟩
theorem leftL_may {ea : Int} {A l : List Int} (h : ChainV.may ⟨ea, A⟩) : ChainV.may ⟨ea + 1, leftL A l⟩ ↔ ea < 1073741824 ∧ leftL A l ≠ [] := by
  obtain ⟨h1, h2, h3, h4, h5⟩ := h
  have hl := leftL_len A l
  have hs := nodesOk_sub (leftL_sub A l) h5
  simp only [ChainV.may] at h1 h2 h3 h4 ⊢
  constructor
  · rintro ⟨_, a, b, _, _⟩
    exact ⟨by omega, fun e => by rw [e] at b; simp at b⟩
  · rintro ⟨a, b⟩
    have := List.length_pos_iff.2 b
    exact ⟨by omega, by omega, by omega, by omega, hs⟩
theorem with_may {ea : Int} {A : List Int} {x : Int} (h : ChainV.may ⟨ea, A⟩) : ChainV.may ⟨ea + 1, A ++ [x]⟩ ↔ ea < 1073741824 ∧ A.length < 5 ∧ 0 ≤ x ∧ x ≤ 4 ∧ x ∉ A := by
  obtain ⟨h1, h2, h3, h4, h5⟩ := h
  simp only [ChainV.may, nodesOk_snoc, List.length_append, List.length_singleton] at h1 h2 h3 h4 ⊢
  constructor
  · rintro ⟨_, a, _, b, _, c, d, e⟩
    exact ⟨by omega, by omega, c, d, e⟩
  · rintro ⟨a, b, c, d, e⟩
    exact ⟨by omega, by omega, by omega, by omega, h5, c, d, e⟩
theorem left_next {ea : Int} {A l : List Int} {n : Int} (h : ChainV.may ⟨ea, A⟩) (hm : ChainV.may ⟨ea + 1, leftL A l⟩) (hn : ∀ x ∈ A, x < n) : nextC ea A (ea + 1) (leftL A l) n :=
  ⟨h, hm, hn, fun x hx => hn x ((leftL_sub A l).subset hx), rfl, .inl ⟨((leftL_may h).1 hm).2, leftL_sub A l⟩⟩
theorem with_next {ea : Int} {A : List Int} {x n : Int} (h : ChainV.may ⟨ea, A⟩) (hm : ChainV.may ⟨ea + 1, A ++ [x]⟩) (hn : ∀ x ∈ A, x < n) (hx : x < n) : nextC ea A (ea + 1) (A ++ [x]) n := by
  refine ⟨h, hm, hn, ?_, rfl, .inr ⟨?_, ?_, ?_⟩⟩
  · intro y hy
    rcases List.mem_append.1 hy with hy | hy
    · exact hn y hy
    · rw [List.mem_singleton.1 hy]; exact hx
  · have := h.2.2.1
    simp only at this
    rw [List.length_append, List.length_singleton]
    omega
  · rw [List.length_append, List.length_singleton, Nat.add_sub_cancel, List.take_left]
    exact List.Sublist.refl _
  · rw [List.length_append, List.length_singleton, Nat.add_sub_cancel, List.getD_eq_getElem?_getD, List.getElem?_append_right (Nat.le_refl _)]
    simpa using ((with_may h).1 hm).2.2.2.2
theorem may_below {ea : Int} {A : List Int} (h : ChainV.may ⟨ea, A⟩) : ∀ x ∈ A, x < 5 := fun x hx => by
  have := h.2.2.2.2.1 x hx
  omega
end Go.Proofs.Ytenjjgghoacboaa

/-! ## ChainA -/
/-
  THE PROGRAM's at, AND ITS ITERATOR OVER WHO STANDS WHERE, by contract. Of chains of at most a million nodes.
-/
namespace Go.Proofs.Ytenjjgghoacboaa
open Go.RowKit Go.Shelf

attribute [local go_sem] Oper.semAt_some

/-- Where a node stands: who is above it, it, who is below it. -/
structure SpotV where
  ab : Int
  nd : Int
  bl : Int
def SpotV.val (x : SpotV) : Value := .agg #[.int .i64 x.ab, .int .i64 x.nd, .int .i64 x.bl]
def encSp (x : SpotV) : Array Value := #[x.val]
def spotOf (L : List Int) (k : Nat) : SpotV := ⟨chAt L ((k : Int) - 1), L.getD k 0, chAt L ((k : Int) + 1)⟩
def spotsOf (L : List Int) (k : Nat) : List SpotV := (List.range k).map (spotOf L)
theorem spotsOf_succ (L : List Int) (k : Nat) : spotsOf L (k + 1) = spotsOf L k ++ [spotOf L k] := by simp [spotsOf, List.range_succ]
theorem spotsOf_length (L : List Int) (k : Nat) : (spotsOf L k).length = k := by simp [spotsOf]
/-- What a maker makes, up to a number. -/
def mks {α : Type} (mk : Nat → α) (k : Nat) : List α := (List.range k).map mk
theorem mks_succ {α : Type} (mk : Nat → α) (k : Nat) : mks mk (k + 1) = mks mk k ++ [mk k] := by simp [mks, List.range_succ]
theorem mks_length {α : Type} (mk : Nat → α) (k : Nat) : (mks mk k).length = k := by simp [mks]
theorem spotsOf_nodes (L : List Int) (k : Nat) (hk : k ≤ L.length) : (spotsOf L k).map (·.nd) = L.take k := by
  induction k with
  | zero => simp [spotsOf]
  | succ k ih => rw [spotsOf_succ, List.map_append, ih (by omega), take_snoc L k hk]; rfl

theorem ints_cell {w : World} {B : Nat} {ao : Option Addr} {n cap : Nat} {L : List Int} (h : Ints w B (.slice ao n cap) L) : n = L.length ∧ (∀ k, k < n → ∃ b off, ao = some ⟨b, off, none⟩ ∧ b < B ∧ w.cell? ⟨b, off + k, none⟩ = some (.int .i64 (L.getD k 0))) := by
  obtain ⟨a, c, he, h1, h2, h3, h4⟩ := h
  simp only [Value.slice.injEq] at he
  obtain ⟨rfl, rfl, rfl⟩ := he
  refine ⟨rfl, fun k hk => ?_⟩
  obtain ⟨b, off, rfl, hb, hc⟩ := h4 (fun e => by rw [e] at hk; simp at hk)
  exact ⟨b, off, rfl, hb, hc k hk⟩

theorem anyIn_take {F : Fence} {n : Nat} {P : Program} {ops : Array Oper} {Q : Exit → Act → World → Prop} {md : Region.Mode} {oi : Oper} {fuel : Nat} {listed : Array Bool} {a : Act} {w : World} (i d : Nat) {v : Value} (hro : F.round = none) (hi : ops[i]? = some oi) (hd : oi.dst = some d)
    (hs : Region.noSelect ops = true) (hf : Region.free md ops listed i = true) (hr : (Region.ready md ops listed).contains i = true)
    (hQ : ∀ c a w, Q (.panic c) (a.put oi.dst v) w → Q (.panic c) a w) (hy : YieldsFenced P ops oi v a)
    (h : wpAnyIn F n P md ops Q fuel (listed.setIfInBounds i true) (a.put (some d) v) w) : wpAnyIn F n P md ops Q (fuel + 1) listed a w :=
  wpAnyIn_take hro hi hs hf hr hQ hy (hd ▸ h)

end Go.Proofs.Ytenjjgghoacboaa

/-! ## ChainB -/
/-
  THE PROGRAM's find, Has, Above, Below, Head, Tail. Of chains of at most a million nodes.
-/
namespace Go.Proofs.Ytenjjgghoacboaa
open Go.RowKit Go.Shelf

attribute [local go_sem] Oper.semAt_some

def BoB (w : World) (b : Nat) (x : Bool) : Prop := w.heap[b]? = some (.cells #[.bool x] 4 (0, 0))
theorem BoB.cells {w : World} {b : Nat} {x : Bool} (h : BoB w b x) : w.cell? ⟨b, 0, none⟩ = some (.bool x) ∧ w.frozen? ⟨b, 0, none⟩ = false := by
  have h' : w.heap[b]? = some (.cells #[.bool x] 4 (0, 0)) := h
  refine ⟨?_, ?_⟩ <;> simp [World.cell?, World.frozen?, h']
theorem cells_own {X Y : World} {row : Option Nat} {b : Nat} {cs : Array Value} {e : TypeId} {fr : Nat × Nat} (h : X.heap[b]? = some (.cells cs e fr)) (hg : X.grownBy Y row) (hrow : ∀ r, row = some r → ∃ o : Obj, X.heap[r]? = some o ∧ o.isCells = false) : Y.heap[b]? = some (.cells cs e fr) :=
  (hg.block b (lt_of_block h) (fun e' => by obtain ⟨o, ho, hc⟩ := hrow b e'.symm; rw [h] at ho; cases ho; cases hc)).trans h

/-- Who stands where, and a bool, stored. -/
def sbW (W : World) (R : Nat) (x : SpotV) (r : Bool) : World := (((W.setCell ⟨R, 0, none⟩ (.int .i64 x.ab)).setCell ⟨R, 1, none⟩ (.int .i64 x.nd)).setCell ⟨R, 2, none⟩ (.int .i64 x.bl)).setCell ⟨R + 1, 0, none⟩ (.bool r)
/-- Where he stands first, and whether he does. -/
def findV (L : List Int) (x : Int) : SpotV × Bool := if x ∈ L then (⟨abvV L x, x, blwV L x⟩, true) else (⟨-1, x, -1⟩, false)
theorem find_hit {L : List Int} {x : Int} {k : Nat} {p : List SpotV} {y : SpotV} (hk : k ≤ L.length) (hp : p ++ [y] = spotsOf L k) (hy : y.nd = x) (hn : ∀ z ∈ p, z.nd ≠ x) : findV L x = (y, true) := by
  cases k with
  | zero => have := congrArg List.length hp; rw [spotsOf_length] at this; simp at this
  | succ k =>
    rw [spotsOf_succ] at hp
    obtain ⟨rfl, h⟩ := List.append_inj' hp rfl
    obtain rfl : y = spotOf L k := by simpa using h
    have hnt : x ∉ L.take k := fun h => by
      rw [← spotsOf_nodes L k (by omega)] at h
      obtain ⟨z, hz, he⟩ := List.mem_map.1 h
      exact hn z hz he
    obtain ⟨h1, h2⟩ := idx_first hk hy hnt
    unfold findV abvV blwV
    rw [if_pos h1, if_pos h1, if_pos h1, h2]
    subst hy
    rfl
theorem find_miss {L : List Int} {x : Int} {p : List SpotV} (hp : p = spotsOf L L.length) (hn : ∀ z ∈ p, z.nd ≠ x) : findV L x = (⟨-1, x, -1⟩, false) := by
  unfold findV
  rw [if_neg]
  intro h
  have := spotsOf_nodes L L.length (Nat.le_refl _)
  rw [List.take_length, ← hp] at this
  rw [← this] at h
  obtain ⟨z, hz, he⟩ := List.mem_map.1 h
  exact hn z hz he

end Go.Proofs.Ytenjjgghoacboaa

/-! ## ChainC -/
/-
  THE PROGRAM's turns (a closure over what is left), mayBeNew, mayBeOf; slices.Index, slices.Max of ints. Of at most a million.
-/
namespace Go.Proofs.Ytenjjgghoacboaa
open Go.RowKit

theorem size_int1 (u : World) : (sizeOf (Try.prog.elem 41)).run Try.prog u = .ok 1 u := by kernel_rfl
set_option maxRecDepth 100000 in
theorem run_slice_ints (a : Option Addr) (n cap : Nat) (lo hi : Option Value) (u : World) : (Instr.sliceAt 41 (.slice a n cap) lo hi none).run Try.prog u = (Instr.slice 41 (.slice a n cap) lo hi none).run Try.prog u := run_sliceAt_slice u 41 _ _ _ _ Try.underlying41
set_option maxRecDepth 100000 in
/-- 'v[i:]' of ints that a slice holds. -/
theorem ints_from {w : World} {B : Nat} {a : Option Addr} {n cap : Nat} {L : List Int} (h : Ints w B (.slice a n cap) L) (i : Nat) (x : Int) (hx : x = i) (hi : i ≤ n) :
    ∃ a', (∀ u : World, (Instr.sliceAt 41 (.slice a n cap) (some (.int .i64 x)) none none).run Try.prog u = .ok (.slice a' (n - i) (cap - i)) u ∧ (Instr.slice 41 (.slice a n cap) (some (.int .i64 x)) none none).run Try.prog u = .ok (.slice a' (n - i) (cap - i)) u) ∧
      Ints w B (.slice a' (n - i) (cap - i)) (L.drop i) := by
  subst hx
  obtain ⟨ao, cap', he, h1, h2, h3, h4⟩ := h
  simp only [Value.slice.injEq] at he
  obtain ⟨rfl, rfl, rfl⟩ := he
  have hrun : ∀ u, (Instr.slice 41 (.slice a L.length cap) (some (.int .i64 (i : Int))) none none).run Try.prog u = .ok (.slice (if cap = i then a else a.map (·.add (i * 1))) (L.length - i) (cap - i)) u := fun u => by
    rw [run_slice_l u 41 a L.length cap Try.underlying41 .i64 i (by omega) (by omega), size_int1]
    simp [Result.andThen, sliced]
  refine ⟨if cap = i then a else a.map (·.add (i * 1)), fun u => ⟨(run_slice_ints ..).trans (hrun u), hrun u⟩, ?_⟩
  have hdl : (L.drop i).length = L.length - i := List.length_drop
  by_cases hci : cap = i
  · rw [if_pos hci]
    have hl : L.drop i = [] := List.eq_nil_of_length_eq_zero (by rw [List.length_drop]; omega)
    refine ⟨_, _, by rw [hdl], by omega, by omega, fun e => by rw [h3 e]; omega, fun e => absurd hl e⟩
  · rw [if_neg hci]
    refine ⟨_, _, by rw [hdl], by omega, by omega, fun e => ?_, fun hne => ?_⟩
    · cases a with
      | none => rw [h3 rfl]; omega
      | some a => cases e
    · obtain ⟨b, off, rfl, hb, hc⟩ := h4 (fun e => hne (by rw [e]; simp))
      refine ⟨b, off + i, by rw [Option.map_some, Nat.mul_one, Addr.add_lit], hb, fun j hj => ?_⟩
      rw [hdl] at hj
      rw [Nat.add_assoc, hc (i + j) (by omega), List.getD_eq_getElem?_getD, List.getD_eq_getElem?_getD, List.getElem?_drop]

/-- What is left behind him, if he is there. -/
def behindL (L : List Int) (x : Int) : List Int := if x ∈ L then L.drop (L.idxOf x + 1) else L

end Go.Proofs.Ytenjjgghoacboaa

/-! ## ChainD -/
/-
  THE PROGRAM's Next: which chain may follow. Of chains of at most a million nodes.
-/
namespace Go.Proofs.Ytenjjgghoacboaa
open Go.RowKit Go.Shelf

attribute [local go_sem] Oper.semAt_some

/-- How far one has come in a's nodes behind one more of b's. -/
def nxN (A : List Int) (p : Nat) (y : SpotV) : Option Nat :=
  if y.nd ∈ A.drop p then some (p + ((A.drop p).idxOf y.nd + 1)) else if y.ab ≠ -1 ∧ y.bl = -1 ∧ y.nd ∉ A then some p else none
def runN (A : List Int) (pre : List SpotV) : Option Nat := pre.foldl (fun s y => s.bind fun p => nxN A p y) (some 0)
theorem spot_ab (L : List Int) (k : Nat) : (spotOf L k).ab = chAt L ((k : Int) - 1) := rfl
theorem runN_nil (A : List Int) : runN A [] = some 0 := rfl
theorem runN_snoc (A : List Int) (pre : List SpotV) (y : SpotV) : runN A (pre ++ [y]) = (runN A pre).bind fun p => nxN A p y := by simp [runN]
theorem run_some {A B : List Int} (hB : ∀ x ∈ B, 0 ≤ x) (h0 : 0 < B.length) : ∀ (k p : Nat), k ≤ B.length → runN A (spotsOf B k) = some p → Con A (B.take k) p ∨ (k = B.length ∧ Fol A B)
  | 0, p, _, h => by
    obtain rfl : 0 = p := by simpa [spotsOf, runN_nil] using h
    exact .inl (by simpa using con_nil A)
  | k + 1, p, hk, h => by
    rw [spotsOf_succ, runN_snoc] at h
    cases hq : runN A (spotsOf B k) with
    | none => rw [hq] at h; cases h
    | some q =>
      rw [hq] at h
      rcases run_some hB h0 k q (by omega) hq with hc | ⟨e, _⟩
      · simp only [Option.bind_some, nxN] at h
        have hnd : (spotOf B k).nd = B.getD k 0 := rfl
        rw [hnd] at h
        split at h
        · rename_i hm
          cases h
          left
          rw [take_snoc B k hk]
          exact hc.step hm
        · split at h
          · rename_i hn hx
            obtain ⟨h1, h2, h3⟩ := hx
            right
            have hk0 : 0 < k := by
              rcases Nat.eq_zero_or_pos k with e | e
              · subst e
                exact (h1 (by rw [spot_ab]; exact chAt_out (.inl (by decide)))).elim
              · exact e
            have hkl : k + 1 = B.length := by
              rcases Nat.lt_or_ge (k + 1) B.length with e | e
              · have e2 : (spotOf B k).bl = B.getD (k + 1) 0 := by
                  show chAt B ((k : Int) + 1) = _
                  rw [show (k : Int) + 1 = ((k + 1 : Nat) : Int) by omega, chAt_in e]
                rw [e2] at h2
                have := hB _ (chGet_mem e)
                omega
              · omega
            exact ⟨hkl, fol_new hk0 hkl hc h3⟩
          · cases h
      · omega
theorem run_none {A B : List Int} (hB : ∀ x ∈ B, 0 ≤ x) (h0 : 0 < B.length) : ∀ (k : Nat), k ≤ B.length → runN A (spotsOf B k) = none → ¬ Fol A B
  | 0, _, h => by simp [spotsOf, runN_nil] at h
  | k + 1, hk, h => by
    rw [spotsOf_succ, runN_snoc] at h
    cases hq : runN A (spotsOf B k) with
    | none => exact run_none hB h0 k (by omega) hq
    | some q =>
      rw [hq] at h
      rcases run_some hB h0 k q (by omega) hq with hc | ⟨e, _⟩
      · simp only [Option.bind_some, nxN] at h
        have hnd : (spotOf B k).nd = B.getD k 0 := rfl
        rw [hnd] at h
        split at h
        · cases h
        · rename_i hn
          split at h
          · cases h
          · rename_i hx
            refine fol_no (k := k) (by omega) rfl hc hn fun ⟨g1, g2, g3⟩ => hx ⟨?_, ?_, g3⟩
            · show chAt B ((k : Int) - 1) ≠ -1
              obtain ⟨j, rfl⟩ : ∃ j, k = j + 1 := ⟨k - 1, by omega⟩
              rw [show ((j + 1 : Nat) : Int) - 1 = (j : Int) by omega, chAt_in (by omega)]
              have := hB _ (chGet_mem (L := B) (k := j) (by omega))
              omega
            · exact chAt_out (.inr (by omega))
      · omega
theorem nx_in {A : List Int} {p : Nat} {y : SpotV} (h : y.nd ∈ A.drop p) : nxN A p y = some (p + ((A.drop p).idxOf y.nd + 1)) ∧ behindL (A.drop p) y.nd = A.drop (p + ((A.drop p).idxOf y.nd + 1)) := by
  unfold nxN behindL
  rw [if_pos h, if_pos h, List.drop_drop]
  exact ⟨rfl, rfl⟩
theorem nx_new {A : List Int} {p : Nat} {y : SpotV} (h : y.nd ∉ A.drop p) (hx : y.ab ≠ -1 ∧ y.bl = -1 ∧ y.nd ∉ A) : nxN A p y = some p ∧ behindL (A.drop p) y.nd = A.drop p := by
  unfold nxN behindL
  rw [if_neg h, if_neg h, if_pos hx]
  exact ⟨rfl, rfl⟩
theorem nx_no {A : List Int} {p : Nat} {y : SpotV} (h : y.nd ∉ A.drop p) (hx : ¬ (y.ab ≠ -1 ∧ y.bl = -1 ∧ y.nd ∉ A)) : nxN A p y = none := by
  unfold nxN
  rw [if_neg h, if_neg hx]

theorem keepsFrom_only {W W' : World} {bx : Nat} {cs : Array Value} {e : TypeId} {fr : Nat × Nat} (h : Only (· = bx) W W') (hb : W.heap[bx]? = some (.cells cs e fr)) (B : Nat) : KeepsFrom B W W' :=
  ⟨h.size, fun k o _ hk ho => (h.block k (Array.getElem?_eq_some_iff.1 hk).1 (fun e' => by subst e'; rw [hb] at hk; cases hk; cases ho)).trans hk⟩

theorem ints_grown {X Y : World} {row : Option Nat} {B : Nat} {v : Value} {L : List Int} (h : Ints X B v L) (hg : X.grownBy Y row) (hrow : ∀ r, row = some r → ∃ o : Obj, X.heap[r]? = some o ∧ o.isCells = false) : Ints Y B v L := by
  obtain ⟨ao, cap, rfl, h1, h2, h3, h4⟩ := h
  refine ⟨ao, cap, rfl, h1, h2, h3, fun hl => ?_⟩
  obtain ⟨b, off, rfl, hb, hc⟩ := h4 hl
  refine ⟨b, off, rfl, hb, fun j hj => ?_⟩
  have hx := hc j hj
  refine (World.cell?_of_block (a := ⟨b, off + j, none⟩) (hg.block b (World.block_lt_of_cell? X _ hx) fun e => ?_)).trans hx
  obtain ⟨o, ho, hcs⟩ := hrow b e.symm
  cases o <;> simp [World.cell?, ho, Obj.isCells] at hx hcs

/-- Both may be, and the epochs fit: what is told then. -/
theorem nextC_of {ea eb n : Int} {A L : List Int} (h1 : ChainV.may ⟨ea, A⟩ ∧ ∀ x ∈ A, x < n) (h2 : ChainV.may ⟨eb, L⟩ ∧ ∀ x ∈ L, x < n) (h3 : eb = ea + 1) : nextC ea A eb L n ↔ Fol A L :=
  ⟨fun h => h.2.2.2.2.2, fun h => ⟨h1.1, h2.1, h1.2, h2.2, h3, h⟩⟩

end Go.Proofs.Ytenjjgghoacboaa
