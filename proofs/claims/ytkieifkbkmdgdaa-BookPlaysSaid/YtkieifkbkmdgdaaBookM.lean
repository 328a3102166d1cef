/-
  A TABLE AS A LIST: pairs whose keys rise; what is put, had, taken out. No condition but that the keys rise.
-/
import Derived.Test.YtkieifkbkmdgdaaBookV
namespace Go.Proofs.Ytkieifkbkmdgdaa
open Go.RowKit

/-- The keys rise. -/
def Rise (L : List (Int × Int)) : Prop := L.Pairwise fun a b => a.1 < b.1
def putL (k v : Int) (L : List (Int × Int)) : List (Int × Int) := L.filter (fun x => decide (x.1 < k)) ++ (k, v) :: L.filter (fun x => decide (k < x.1))
def delL (k : Int) (L : List (Int × Int)) : List (Int × Int) := L.filter fun x => decide (x.1 ≠ k)
def getL (k : Int) (L : List (Int × Int)) : Option Int := (L.find? fun x => decide (x.1 = k)).map (·.2)

theorem Rise.parts {l r : List (Int × Int)} {k v : Int} (h : Rise (l ++ (k, v) :: r)) : Rise l ∧ Rise r ∧ (∀ x ∈ l, x.1 < k) ∧ ∀ x ∈ r, k < x.1 := by
  obtain ⟨h1, h2, h3⟩ := List.pairwise_append.1 h
  obtain ⟨h4, h5⟩ := List.pairwise_cons.1 h2
  exact ⟨h1, h5, fun x hx => h3 x hx (k, v) (by simp), fun x hx => h4 x hx⟩
theorem Rise.join {l r : List (Int × Int)} {k v : Int} (h1 : Rise l) (h2 : Rise r) (h3 : ∀ x ∈ l, x.1 < k) (h4 : ∀ x ∈ r, k < x.1) : Rise (l ++ (k, v) :: r) :=
  List.pairwise_append.2 ⟨h1, List.pairwise_cons.2 ⟨fun x hx => h4 x hx, h2⟩, fun x hx y hy => by
    rcases List.mem_cons.1 hy with rfl | hy
    · exact h3 x hx
    · have := h3 x hx; have := h4 y hy; omega⟩
theorem filter_all {α : Type} {L : List α} {p : α → Bool} (h : ∀ x ∈ L, p x = true) : L.filter p = L := List.filter_eq_self.2 h
theorem filter_no {α : Type} {L : List α} {p : α → Bool} (h : ∀ x ∈ L, p x = false) : L.filter p = [] := List.filter_eq_nil_iff.2 fun x hx => by simp [h x hx]

theorem putL_nil (k v : Int) : putL k v [] = [(k, v)] := rfl
theorem putL_lt {l r : List (Int × Int)} {k0 v0 k v : Int} (h : Rise (l ++ (k0, v0) :: r)) (hk : k < k0) : putL k v (l ++ (k0, v0) :: r) = putL k v l ++ (k0, v0) :: r := by
  obtain ⟨_, _, h3, h4⟩ := h.parts
  unfold putL
  rw [List.filter_append, List.filter_append, List.filter_cons_of_neg (by simp; omega), List.filter_cons_of_pos (by simp; omega), filter_no (L := r) (fun x hx => by have := h4 x hx; simp; omega), filter_all (L := r) (fun x hx => by have := h4 x hx; simp; omega)]
  simp
theorem putL_gt {l r : List (Int × Int)} {k0 v0 k v : Int} (h : Rise (l ++ (k0, v0) :: r)) (hk : k0 < k) : putL k v (l ++ (k0, v0) :: r) = l ++ (k0, v0) :: putL k v r := by
  obtain ⟨_, _, h3, h4⟩ := h.parts
  unfold putL
  rw [List.filter_append, List.filter_append, List.filter_cons_of_pos (by simp; omega), List.filter_cons_of_neg (by simp; omega), filter_all (L := l) (fun x hx => by have := h3 x hx; simp; omega), filter_no (L := l) (fun x hx => by have := h3 x hx; simp; omega)]
  simp
theorem putL_eq {l r : List (Int × Int)} {k v0 v : Int} (h : Rise (l ++ (k, v0) :: r)) : putL k v (l ++ (k, v0) :: r) = l ++ (k, v) :: r := by
  obtain ⟨_, _, h3, h4⟩ := h.parts
  unfold putL
  rw [List.filter_append, List.filter_append, List.filter_cons_of_neg (by simp), List.filter_cons_of_neg (by simp), filter_all (L := l) (fun x hx => by have := h3 x hx; simp; omega), filter_no (L := l) (fun x hx => by have := h3 x hx; simp; omega), filter_no (L := r) (fun x hx => by have := h4 x hx; simp; omega), filter_all (L := r) (fun x hx => by have := h4 x hx; simp; omega)]
  simp
theorem delL_lt {l r : List (Int × Int)} {k0 v0 k : Int} (h : Rise (l ++ (k0, v0) :: r)) (hk : k < k0) : delL k (l ++ (k0, v0) :: r) = delL k l ++ (k0, v0) :: r := by
  obtain ⟨_, _, h3, h4⟩ := h.parts
  unfold delL
  rw [List.filter_append, List.filter_cons_of_pos (by simp; omega), filter_all (L := r) (fun x hx => by have := h4 x hx; simp; omega)]
theorem delL_gt {l r : List (Int × Int)} {k0 v0 k : Int} (h : Rise (l ++ (k0, v0) :: r)) (hk : k0 < k) : delL k (l ++ (k0, v0) :: r) = l ++ (k0, v0) :: delL k r := by
  obtain ⟨_, _, h3, h4⟩ := h.parts
  unfold delL
  rw [List.filter_append, List.filter_cons_of_pos (by simp; omega), filter_all (L := l) (fun x hx => by have := h3 x hx; simp; omega)]
theorem delL_eq {l r : List (Int × Int)} {k v0 : Int} (h : Rise (l ++ (k, v0) :: r)) : delL k (l ++ (k, v0) :: r) = l ++ r := by
  obtain ⟨_, _, h3, h4⟩ := h.parts
  unfold delL
  rw [List.filter_append, List.filter_cons_of_neg (by simp), filter_all (L := l) (fun x hx => by have := h3 x hx; simp; omega), filter_all (L := r) (fun x hx => by have := h4 x hx; simp; omega)]
theorem getL_no {L : List (Int × Int)} {k : Int} (h : ∀ x ∈ L, x.1 ≠ k) : getL k L = none := by
  unfold getL
  rw [List.find?_eq_none.2 (fun x hx => by simpa using h x hx)]
  rfl
theorem getL_nil (k : Int) : getL k [] = none := rfl
theorem getL_lt {l r : List (Int × Int)} {k0 v0 k : Int} (h : Rise (l ++ (k0, v0) :: r)) (hk : k < k0) : getL k (l ++ (k0, v0) :: r) = getL k l := by
  obtain ⟨_, _, h3, h4⟩ := h.parts
  unfold getL
  rw [List.find?_append, List.find?_eq_none.2 (show ∀ x ∈ (k0, v0) :: r, _ from fun x hx => by
    rcases List.mem_cons.1 hx with rfl | hx
    · simp; omega
    · have := h4 x hx; simp; omega)]
  simp
theorem getL_gt {l r : List (Int × Int)} {k0 v0 k : Int} (h : Rise (l ++ (k0, v0) :: r)) (hk : k0 < k) : getL k (l ++ (k0, v0) :: r) = getL k r := by
  obtain ⟨_, _, h3, h4⟩ := h.parts
  unfold getL
  rw [List.find?_append, List.find?_eq_none.2 (fun x hx => by have := h3 x hx; simp; omega), List.find?_cons_of_neg (by simp; omega)]
  simp
theorem getL_eq {l r : List (Int × Int)} {k v0 : Int} (h : Rise (l ++ (k, v0) :: r)) : getL k (l ++ (k, v0) :: r) = some v0 := by
  obtain ⟨_, _, h3, h4⟩ := h.parts
  unfold getL
  rw [List.find?_append, List.find?_eq_none.2 (fun x hx => by have := h3 x hx; simp; omega), List.find?_cons_of_pos (by simp)]
  simp
theorem putL_mem {L : List (Int × Int)} {k v : Int} {x : Int × Int} (h : x ∈ putL k v L) : x = (k, v) ∨ x ∈ L := by
  unfold putL at h
  rcases List.mem_append.1 h with h | h
  · exact .inr (List.mem_filter.1 h).1
  · rcases List.mem_cons.1 h with h | h
    · exact .inl h
    · exact .inr (List.mem_filter.1 h).1
theorem delL_mem {L : List (Int × Int)} {k : Int} {x : Int × Int} : x ∈ delL k L ↔ x ∈ L ∧ x.1 ≠ k := by
  unfold delL
  simp [List.mem_filter]
theorem Rise.filter {L : List (Int × Int)} (h : Rise L) (p : Int × Int → Bool) : Rise (L.filter p) := List.Pairwise.filter _ h
theorem Rise.put {L : List (Int × Int)} (h : Rise L) (k v : Int) : Rise (putL k v L) :=
  Rise.join (h.filter _) (h.filter _) (fun x hx => by simpa using (List.mem_filter.1 hx).2) (fun x hx => by simpa using (List.mem_filter.1 hx).2)
theorem Rise.del {L : List (Int × Int)} (h : Rise L) (k : Int) : Rise (delL k L) := h.filter _
theorem putL_len (k v : Int) (L : List (Int × Int)) : (putL k v L).length ≤ L.length + 1 := by
  unfold putL
  rw [List.length_append, List.length_cons]
  have h1 : (L.filter fun x => decide (x.1 < k)).length + (L.filter fun x => decide (k < x.1)).length ≤ L.length := by
    induction L with
    | nil => simp
    | cons x L ih =>
      simp only [List.filter_cons, List.length_cons]
      by_cases h1 : x.1 < k
      · have h2 : ¬ k < x.1 := by omega
        simp only [decide_eq_true h1, decide_eq_false h2, if_true, List.length_cons]
        simp; omega
      · by_cases h2 : k < x.1
        · simp only [decide_eq_false h1, decide_eq_true h2, if_true, List.length_cons]
          simp; omega
        · simp only [decide_eq_false h1, decide_eq_false h2]
          simp; omega
  omega
theorem delL_len (k : Int) (L : List (Int × Int)) : (delL k L).length ≤ L.length := List.length_filter_le _ _
theorem Rise.head {x : Int × Int} {L : List (Int × Int)} (h : Rise (x :: L)) : Rise L ∧ ∀ y ∈ L, x.1 < y.1 := ⟨(List.pairwise_cons.1 h).2, (List.pairwise_cons.1 h).1⟩
/-- What is had lies at one place. -/
theorem getL_split : ∀ {L : List (Int × Int)} {k v : Int}, getL k L = some v → ∃ l r, L = l ++ (k, v) :: r
  | [], _, _, h => by simp [getL] at h
  | x :: L, k, v, h => by
    by_cases hx : x.1 = k
    · refine ⟨[], L, ?_⟩
      unfold getL at h
      rw [List.find?_cons_of_pos (by simp [hx])] at h
      simp at h
      rw [List.nil_append, ← hx, ← h]
    · unfold getL at h
      rw [List.find?_cons_of_neg (by simp [hx])] at h
      obtain ⟨l, r, e⟩ := getL_split (L := L) h
      exact ⟨x :: l, r, by rw [e]; rfl⟩
theorem getL_none {L : List (Int × Int)} {k : Int} (h : getL k L = none) : ∀ x ∈ L, x.1 ≠ k := by
  intro x hx e
  unfold getL at h
  simp at h
  exact h x.1 x.2 hx e
theorem getL_mem {L : List (Int × Int)} (h : Rise L) {k v : Int} (hm : (k, v) ∈ L) : getL k L = some v := by
  obtain ⟨l, r, rfl⟩ := List.append_of_mem hm
  exact getL_eq h
theorem putL_new {L : List (Int × Int)} {k v : Int} (h : getL k L = none) : (putL k v L).length = L.length + 1 := by
  have hn := getL_none h
  unfold putL
  rw [List.length_append, List.length_cons]
  have h1 : ∀ L : List (Int × Int), (∀ x ∈ L, x.1 ≠ k) → (L.filter fun x => decide (x.1 < k)).length + (L.filter fun x => decide (k < x.1)).length = L.length := by
    intro L
    induction L with
    | nil => simp
    | cons x L ih =>
      intro hn
      have := ih fun y hy => hn y (List.mem_cons_of_mem _ hy)
      have hx := hn x (by simp)
      simp only [List.filter_cons, List.length_cons]
      by_cases h1 : x.1 < k
      · have h2 : ¬ k < x.1 := by omega
        simp only [decide_eq_true h1, decide_eq_false h2, if_true, List.length_cons]
        simp; omega
      · have h2 : k < x.1 := by omega
        simp only [decide_eq_false h1, decide_eq_true h2, if_true, List.length_cons]
        simp; omega
  have := h1 L hn
  omega
theorem putL_old {L : List (Int × Int)} (hr : Rise L) {k v v0 : Int} (h : getL k L = some v0) : (putL k v L).length = L.length := by
  obtain ⟨l, r, rfl⟩ := getL_split h
  rw [putL_eq hr]
  simp
theorem delL_had {L : List (Int × Int)} (hr : Rise L) {k v0 : Int} (h : getL k L = some v0) : (delL k L).length + 1 = L.length := by
  obtain ⟨l, r, rfl⟩ := getL_split h
  rw [delL_eq hr]
  simp
  omega
theorem delL_no {L : List (Int × Int)} {k : Int} (h : getL k L = none) : delL k L = L := filter_all fun x hx => by simpa using getL_none h x hx

/-- A node's pair is in the list. -/
theorem Tr.mem {w : World} {b : Nat} {k v : Int} {p q : Value} {h : Int} (H : NodeAt w b k v p q h) : ∀ {T : BT}, Tr w T → T.has b → (k, v) ∈ T.list
  | .nil, _, hb => hb.elim
  | .node b0 k0 v0 l r, ⟨h0, hl, hr, _⟩, hb => by
    simp only [BT.list, List.mem_append, List.mem_cons]
    rcases hb with rfl | hb | hb
    · have e := (show w.heap[b]? = _ from h0).symm.trans H
      simp at e
      obtain ⟨rfl, rfl, _⟩ := e
      exact .inr (.inl rfl)
    · exact .inl (hl.mem H hb)
    · exact .inr (.inr (hr.mem H hb))

/-- A node's value stored anew. -/
theorem Tr.setV {w : World} {b : Nat} {k v0 : Int} {p q : Value} {h : Int} (H : NodeAt w b k v0 p q h) (v : Int) : ∀ {T : BT}, Tr w T → Rise T.list → T.has b →
    ∃ T' : BT, T'.ptr = T.ptr ∧ T'.ht = T.ht ∧ Tr (w.setCell ⟨b, 1, none⟩ (.int .i64 v)) T' ∧ T'.list = putL k v T.list ∧ ∀ x, T'.has x ↔ T.has x
  | .nil, _, _, hb => hb.elim
  | .node b0 k0 v1 l r, ⟨h0, hl, hr, n1, n2, n3⟩, hs, hb => by
    have O : Only (· = b) w (w.setCell ⟨b, 1, none⟩ (.int .i64 v)) := Only.set _ _ _ _
    have hs' : Rise (l.list ++ (k0, v1) :: r.list) := hs
    obtain ⟨s1, s2, s3, s4⟩ := hs'.parts
    rcases hb with rfl | hb | hb
    · have e := (show w.heap[b]? = _ from h0).symm.trans H
      simp at e
      obtain ⟨rfl, rfl, _⟩ := e
      refine ⟨.node b k0 v l r, rfl, rfl, ⟨h0.setV v, hl.keep O (fun x hx e => n1 (e ▸ hx)), hr.keep O (fun x hx e => n2 (e ▸ hx)), n1, n2, n3⟩, ?_, fun _ => Iff.rfl⟩
      exact (putL_eq hs').symm
    · have hk := s3 _ (hl.mem H hb)
      obtain ⟨l', e1, e2, e3, e4, e5⟩ := Tr.setV H v hl s1 hb
      have hne : b0 ≠ b := fun e => n1 (e ▸ hb)
      refine ⟨.node b0 k0 v1 l' r, rfl, by simp only [BT.ht, e2], ⟨?_, e3, hr.keep O (fun x hx e => n3 x (e ▸ hb) hx), fun hx => n1 ((e5 _).1 hx), n2, fun x hx => n3 x ((e5 x).1 hx)⟩, ?_, fun x => by simp only [BT.has, e5]⟩
      · rw [e1, e2]; exact h0.keep O hne
      · show l'.list ++ _ = _
        rw [e4]; exact (putL_lt hs' hk).symm
    · have hk := s4 _ (hr.mem H hb)
      obtain ⟨r', e1, e2, e3, e4, e5⟩ := Tr.setV H v hr s2 hb
      have hne : b0 ≠ b := fun e => n2 (e ▸ hb)
      refine ⟨.node b0 k0 v1 l r', rfl, by simp only [BT.ht, e2], ⟨?_, hl.keep O (fun x hx e => n3 x hx (e ▸ hb)), e3, n1, fun hx => n2 ((e5 _).1 hx), fun x hl hx => n3 x hl ((e5 x).1 hx)⟩, ?_, fun x => by simp only [BT.has, e5]⟩
      · rw [e1, e2]; exact h0.keep O hne
      · show l.list ++ (k0, v1) :: r'.list = _
        rw [e4]; exact (putL_gt hs' hk).symm
end Go.Proofs.Ytkieifkbkmdgdaa
