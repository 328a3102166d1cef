/-
  THE TWO LEASES ALIKE, as plain data: what the program's questions and the reference's have to do with one another. No condition.
-/
import Derived.Test.YtomjlhmkmihbeaaQHl
namespace Go.Proofs.Ytomjlhmkmihbeaa
open Go.RowKit

/-- Where question i of so many stands. -/
def plQ (r m i : Nat) : Nat := (r - m + i) % 4
/-- One question of both. -/
structure RelQ (id : Int) (p : QV) (q : RQ) : Prop where
  id_ : q.id = id
  at_ : q.at_ = p.asked
  ep : q.ep = p.ep
  cnt : q.told.length = cntF p.told 5
  mem : ∀ j : Nat, j < 5 → ((j : Int) ∈ q.told ↔ p.told j = true)
structure Rel (r : Nat) (qs : Nat → QV) (L : List RQ) : Prop where
  len : L.length = min r 4
  each : ∀ (i : Nat) (q : RQ), L[i]? = some q → RelQ ((r : Int) - ((min r 4 : Nat) : Int) + 1 + (i : Int)) (qs (plQ r (min r 4) i)) q
theorem rel_zero : Rel 0 noQ [] := ⟨rfl, fun i q h => by simp at h⟩
theorem Rel.l4 {r : Nat} {qs : Nat → QV} {L : List RQ} (h : Rel r qs L) : L.length ≤ 4 := by rw [h.len]; omega
theorem Rel.get {r : Nat} {qs : Nat → QV} {L : List RQ} (h : Rel r qs L) {i : Nat} (hi : i < L.length) : RelQ ((r : Int) - ((min r 4 : Nat) : Int) + 1 + (i : Int)) (qs (plQ r (min r 4) i)) L[i] := h.each i _ (List.getElem?_eq_getElem hi)
theorem Rel.told5 {r : Nat} {qs : Nat → QV} {L : List RQ} (h : Rel r qs L) : ∀ q ∈ L, q.told.length ≤ 5 := fun q hq => by
  obtain ⟨i, hi, rfl⟩ := List.getElem_of_mem hq
  rw [(h.get hi).cnt]
  exact cntF_le _ 5
theorem Rel.at0 {r : Nat} {qs : Nat → QV} {L : List RQ} (h : Rel r qs L) (hA : ∀ j, 0 ≤ (qs j).asked) : ∀ q ∈ L, 0 ≤ q.at_ := fun q hq => by
  obtain ⟨i, hi, rfl⟩ := List.getElem_of_mem hq
  rw [(h.get hi).at_]
  exact hA _
theorem Rel.last {r : Nat} {qs : Nat → QV} {L : List RQ} (h : Rel r qs L) (h0 : 0 < r) : ∃ q, L.getLast? = some q ∧ q.at_ = (qs ((r - 1) % 4)).asked ∧ q.ep = (qs ((r - 1) % 4)).ep := by
  have hl := h.len
  have hi : min r 4 - 1 < L.length := by omega
  refine ⟨L[min r 4 - 1], ?_, ?_, ?_⟩
  · rw [List.getLast?_eq_getElem?, hl, List.getElem?_eq_getElem hi]
  · rw [(h.get hi).at_, show plQ r (min r 4) (min r 4 - 1) = (r - 1) % 4 by unfold plQ; congr 1; omega]
  · rw [(h.get hi).ep, show plQ r (min r 4) (min r 4 - 1) = (r - 1) % 4 by unfold plQ; congr 1; omega]
theorem rel_ask {r : Nat} {qs : Nat → QV} {L : List RQ} (h : Rel r qs L) (t ep : Int) : askB r qs t ep = askR L t ep := by
  unfold askB askR
  refine decide_eq_decide.2 ⟨fun ⟨h1, h2, h3⟩ => ⟨h1, h2, fun q hq => ?_⟩, fun ⟨h1, h2, h3⟩ => ⟨h1, h2, fun h0 => ?_⟩⟩
  · have h0 : 0 < r := by
      by_cases h0 : 0 < r
      · exact h0
      · have : L = [] := List.eq_nil_of_length_eq_zero (by rw [h.len]; omega)
        rw [this] at hq
        cases hq
    obtain ⟨q', hq', ha, _⟩ := h.last h0
    rw [hq] at hq'
    cases hq'
    rw [ha]
    exact h3 h0
  · obtain ⟨q', hq', ha, _⟩ := h.last h0
    rw [← ha]
    exact h3 q' hq'
theorem rel_new (t ep : Int) (id : Int) (v : Value) : RelQ id (.new t ep) ⟨id, t, ep, v, []⟩ := ⟨rfl, rfl, rfl, rfl, fun j _ => by simp [QV.new]⟩
theorem rel_asked {r : Nat} {qs : Nat → QV} {L : List RQ} (h : Rel r qs L) (t ep : Int) (v : Value) : Rel (r + 1) (upQ qs (r % 4) (.new t ep)) (askL L ⟨(r : Int) + 1, t, ep, v, []⟩) := by
  have hl := h.len
  unfold askL
  by_cases h4 : L.length + 1 ≤ 4
  · rw [if_pos h4]
    refine ⟨by rw [List.length_append, List.length_singleton]; omega, fun i q hq => ?_⟩
    by_cases hi : i < L.length
    · rw [List.getElem?_append_left hi] at hq
      have hp : plQ (r + 1) (min (r + 1) 4) i = plQ r (min r 4) i := by unfold plQ; congr 1; omega
      have hne : plQ r (min r 4) i ≠ r % 4 := by unfold plQ; omega
      rw [hp, show upQ qs (r % 4) (.new t ep) (plQ r (min r 4) i) = qs (plQ r (min r 4) i) by simp [upQ, hne]]
      have he := h.each i q hq
      rw [show (((r + 1 : Nat) : Int) - ((min (r + 1) 4 : Nat) : Int) + 1 + (i : Int)) = (r : Int) - ((min r 4 : Nat) : Int) + 1 + (i : Int) by omega]
      exact he
    · rw [List.getElem?_append_right (by omega)] at hq
      have hi0 : i = L.length := by
        have := (List.getElem?_eq_some_iff.1 hq).1
        simp at this
        omega
      subst hi0
      rw [Nat.sub_self] at hq
      simp at hq
      subst hq
      have hp : plQ (r + 1) (min (r + 1) 4) L.length = r % 4 := by unfold plQ; congr 1; omega
      rw [hp, show upQ qs (r % 4) (.new t ep) (r % 4) = .new t ep by simp [upQ], show (((r + 1 : Nat) : Int) - ((min (r + 1) 4 : Nat) : Int) + 1 + (L.length : Int)) = (r : Int) + 1 by omega]
      exact rel_new _ _ _ _
  · rw [if_neg h4]
    have hr4 : 4 ≤ r := by omega
    have hl4 : L.length = 4 := by omega
    refine ⟨by rw [List.length_tail, List.length_append, List.length_singleton]; omega, fun i q hq => ?_⟩
    rw [List.getElem?_tail] at hq
    by_cases hi : i + 1 < L.length
    · rw [List.getElem?_append_left hi] at hq
      have he := h.each (i + 1) q hq
      have hp : plQ (r + 1) (min (r + 1) 4) i = plQ r (min r 4) (i + 1) := by unfold plQ; congr 1; omega
      have hne : plQ r (min r 4) (i + 1) ≠ r % 4 := by unfold plQ; omega
      rw [hp, show upQ qs (r % 4) (.new t ep) (plQ r (min r 4) (i + 1)) = qs (plQ r (min r 4) (i + 1)) by simp [upQ, hne], show (((r + 1 : Nat) : Int) - ((min (r + 1) 4 : Nat) : Int) + 1 + (i : Int)) = (r : Int) - ((min r 4 : Nat) : Int) + 1 + ((i + 1 : Nat) : Int) by omega]
      exact he
    · rw [List.getElem?_append_right (by omega)] at hq
      have hi0 : i = 3 := by
        have := (List.getElem?_eq_some_iff.1 hq).1
        simp at this
        omega
      subst hi0
      rw [show 3 + 1 - L.length = 0 by omega] at hq
      simp at hq
      subst hq
      have hp : plQ (r + 1) (min (r + 1) 4) 3 = r % 4 := by unfold plQ; omega
      rw [hp, show upQ qs (r % 4) (.new t ep) (r % 4) = .new t ep by simp [upQ], show (((r + 1 : Nat) : Int) - ((min (r + 1) 4 : Nat) : Int) + 1 + ((3 : Nat) : Int)) = (r : Int) + 1 by omega]
      exact rel_new _ _ _ _

/-! ### Told -/
theorem rel_isQ {r : Nat} {qs : Nat → QV} {L : List RQ} (h : Rel r qs L) (id : Int) {i : Nat} (hq : isQ L id i) : (1 ≤ id ∧ id ≤ (r : Int) ∧ (r : Int) - 4 < id) ∧ ((id - 1) % 4).toNat = plQ r (min r 4) i ∧ (qs ((id - 1) % 4).toNat).ep = (qs ((r - 1) % 4)).ep := by
  obtain ⟨hi, h1, h2⟩ := hq
  have hl := h.len
  have hid := (h.get hi).id_
  rw [h1] at hid
  have hp : ((id - 1) % 4).toNat = plQ r (min r 4) i := by unfold plQ; omega
  obtain ⟨q, hq, _, he⟩ := h.last (by omega)
  refine ⟨by omega, hp, ?_⟩
  rw [hp, ← (h.get hi).ep, h2 q hq, he]
theorem rel_tell {r : Nat} {qs : Nat → QV} {L : List RQ} (h : Rel r qs L) (N : Nat) (id k : Int) : tellB N r qs id k = true ↔ (0 ≤ k ∧ k < (N : Int)) ∧ ∃ i, isQ L id i := by
  unfold tellB
  rw [decide_eq_true_iff]
  constructor
  · rintro ⟨h1, h2, h3⟩
    refine ⟨h1, ?_⟩
    have hl := h.len
    obtain ⟨i, hi⟩ : ∃ i : Nat, (i : Int) = id - 1 - ((r : Int) - ((min r 4 : Nat) : Int)) := ⟨(id - 1 - ((r : Int) - ((min r 4 : Nat) : Int))).toNat, by omega⟩
    have hiL : i < L.length := by omega
    refine ⟨i, hiL, by rw [(h.get hiL).id_]; omega, fun q hq => ?_⟩
    obtain ⟨q', hq', _, he⟩ := h.last (by omega)
    rw [hq] at hq'
    cases hq'
    rw [(h.get hiL).ep, he, ← h3, show plQ r (min r 4) i = ((id - 1) % 4).toNat by unfold plQ; omega]
  · rintro ⟨h1, i, hi⟩
    obtain ⟨h2, _, h3⟩ := rel_isQ h id hi
    exact ⟨h1, h2, h3⟩
theorem cnt_same (t : Nat → Bool) (k : Nat) (h : t k = true) : (fun x => if x = k then true else t x) = t := by
  funext x
  by_cases e : x = k
  · rw [if_pos e, e, h]
  · rw [if_neg e]
theorem cnt_add (t : Nat → Bool) (k : Nat) (h : t k = false) : ∀ m, cntF (fun x => if x = k then true else t x) m = cntF t m + (if k < m then 1 else 0)
  | 0 => by simp [cntF]
  | m + 1 => by
    show cntF (fun x => if x = k then true else t x) m + (if (if m = k then true else t m) = true then 1 else 0) = cntF t m + (if t m = true then 1 else 0) + (if k < m + 1 then 1 else 0)
    rw [cnt_add t k h m]
    by_cases e : m = k
    · subst e
      rw [h]
      simp
    · rw [if_neg e]
      by_cases e1 : k < m
      · rw [if_pos e1, if_pos (show k < m + 1 by omega)]
        omega
      · rw [if_neg e1, if_neg (show ¬ k < m + 1 by omega)]
        omega
theorem rel_told {r : Nat} {qs : Nat → QV} {L : List RQ} (h : Rel r qs L) {id : Int} {k : Nat} (hk : k < 5) {i : Nat} (hi : i < L.length) (hq : isQ L id i) {L' : List RQ}
    (hL : (((k : Int) ∈ L[i].told ∧ L' = L) ∨ ((k : Int) ∉ L[i].told ∧ ∃ v, L' = L.set i ⟨L[i].id, L[i].at_, L[i].ep, v, L[i].told ++ [(k : Int)]⟩))) :
    Rel r (upQ qs ((id - 1) % 4).toNat ((qs ((id - 1) % 4).toNat).tell k)) L' := by
  obtain ⟨_, hp, _⟩ := rel_isQ h id hq
  have hl := h.len
  rw [hp]
  have hg := h.get hi
  rcases hL with ⟨hin, rfl⟩ | ⟨hin, v, rfl⟩
  · have hs : (qs (plQ r (min r 4) i)).tell k = qs (plQ r (min r 4) i) := by
      unfold QV.tell
      rw [cnt_same _ _ ((hg.mem k hk).1 hin)]
    rw [hs]
    have he : upQ qs (plQ r (min r 4) i) (qs (plQ r (min r 4) i)) = qs := by funext j; unfold upQ; split <;> simp_all
    rw [he]
    exact h
  · have hf : (qs (plQ r (min r 4) i)).told k = false := by
      cases hb : (qs (plQ r (min r 4) i)).told k with
      | false => rfl
      | true => exact absurd ((hg.mem k hk).2 hb) hin
    refine ⟨by rw [List.length_set]; exact hl, fun j q hj => ?_⟩
    by_cases e : i = j
    · subst e
      rw [List.getElem?_set_self hi] at hj
      cases hj
      rw [show upQ qs (plQ r (min r 4) i) ((qs (plQ r (min r 4) i)).tell k) (plQ r (min r 4) i) = (qs (plQ r (min r 4) i)).tell k by simp [upQ]]
      refine ⟨hg.id_, hg.at_, hg.ep, ?_, fun j hj => ?_⟩
      · show (L[i].told ++ [(k : Int)]).length = cntF (fun x => if x = k then true else (qs (plQ r (min r 4) i)).told x) 5
        rw [cnt_add _ _ hf 5, if_pos hk, List.length_append, hg.cnt]
        rfl
      · show (j : Int) ∈ L[i].told ++ [(k : Int)] ↔ (if j = k then true else (qs (plQ r (min r 4) i)).told j) = true
        rw [List.mem_append, List.mem_singleton, hg.mem j hj]
        by_cases ej : j = k
        · subst ej
          simp
        · rw [if_neg ej]
          constructor
          · rintro (h | h)
            · exact h
            · omega
          · exact fun h => .inl h
    · rw [List.getElem?_set_ne e] at hj
      have hjl := (List.getElem?_eq_some_iff.1 hj).1
      have hne : plQ r (min r 4) j ≠ plQ r (min r 4) i := by unfold plQ; omega
      rw [show upQ qs (plQ r (min r 4) i) ((qs (plQ r (min r 4) i)).tell k) (plQ r (min r 4) j) = qs (plQ r (min r 4) j) by simp [upQ, hne]]
      exact h.each j q hj

/-! ### Valid, Lost -/
theorem rel_ok {N : Nat} {id : Int} {p : QV} {q : RQ} (h : RelQ id p q) (t ep : Int) : okQR N q t ep ↔ okB N p t ep = true := by
  unfold okQR okB
  rw [decide_eq_true_iff, h.at_, h.ep, h.cnt]
theorem rel_valid {r : Nat} {qs : Nat → QV} {L : List RQ} (h : Rel r qs L) (N : Nat) (t ep : Int) {R : Bool} (hR : validB N r qs t ep = R) : (∃ i, ∃ (hi : i < L.length), okQR N L[i] t ep) ↔ R = true := by
  have hl := h.len
  rw [← hR]
  unfold validB
  rw [decide_eq_true_iff]
  constructor
  · rintro ⟨i, hi, ho⟩
    exact ⟨plQ r (min r 4) i, by unfold plQ; omega, (rel_ok (h.get hi) t ep).1 ho⟩
  · rintro ⟨j, hj, ho⟩
    obtain ⟨i, hi4, hij⟩ : ∃ i, i < min r 4 ∧ plQ r (min r 4) i = j := by
      by_cases h4 : r < 4
      · exact ⟨j, hj, by unfold plQ; omega⟩
      · exact ⟨(j + 3 * r) % 4, by omega, by unfold plQ; omega⟩
    have hi : i < L.length := by omega
    refine ⟨i, hi, (rel_ok (h.get hi) t ep).2 ?_⟩
    rw [hij]
    exact ho
theorem cnt_none : ∀ m, cntF (fun _ => false) m = 0
  | 0 => rfl
  | m + 1 => by
    show cntF (fun _ => false) m + (if false = true then 1 else 0) = 0
    rw [cnt_none m]
    rfl
theorem rel_lost {r : Nat} {qs : Nat → QV} {L : List RQ} (h : Rel r qs L) : Rel r (lostQ qs (min r 4)) (clrL L L.length) := by
  have hl := h.len
  refine ⟨by rw [clrL_len]; exact hl, fun i q hq => ?_⟩
  rw [clrL_get] at hq
  have hi : i < L.length := by
    by_cases hi : i < L.length
    · exact hi
    · rw [if_neg hi, List.getElem?_eq_none (by omega)] at hq
      cases hq
  rw [if_pos hi, List.getElem?_eq_getElem hi] at hq
  have hq' : clr L[i] = q := by simpa using hq
  subst hq'
  have hg := h.get hi
  have hp : lostQ qs (min r 4) (plQ r (min r 4) i) = (qs (plQ r (min r 4) i)).lost := by unfold lostQ; rw [if_pos (by unfold plQ; omega)]
  rw [hp]
  exact ⟨hg.id_, hg.at_, hg.ep, (cnt_none 5).symm, fun j _ => by simp [clr, QV.lost]⟩
end Go.Proofs.Ytomjlhmkmihbeaa
