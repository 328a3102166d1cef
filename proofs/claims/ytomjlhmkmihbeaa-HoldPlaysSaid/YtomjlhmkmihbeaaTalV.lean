/-
  A PROPOSER's COUNT AS PLAIN DATA: who promised, who said yes, what is to be proposed; what Promise, Yes, Ready, Done tell and make of it; its block, and its two sets. No condition.
-/
import Derived.Test.YtomjlhmkmihbeaaAccV
import Derived.Maps.OwnSet
import Derived.Maps.Views
namespace Go.Proofs.Ytomjlhmkmihbeaa
open Go.RowKit Go.Maps

/-- A count as plain data. -/
structure TalV where
  n : Int
  r : Int
  k : Int
  P : List Int
  Y : List Int
  ce : Int
  C : List Int
  has : Bool
  ar : Int
  an : Int
def TalV.first (n r k ce : Int) (C : List Int) : TalV := ⟨n, r, k, [], [], ce, C, false, 0, 0⟩
/-- How many are a majority. -/
def mostV (n : Int) : Int := if n < 1 then 0 else n / 2 + 1
/-- Is there such a node? -/
def TalV.seat (s : TalV) (x : Int) : Bool := decide (0 ≤ x ∧ x < s.n)
/-- May this vote be counted? -/
def TalV.fits (s : TalV) (v : VoteV) : Bool := decide ((v.pr = s.r ∧ v.pn = s.k) ∧ (v.has = true → mayV v.ar v.an = true ∧ ChainV.may ⟨v.ce, v.C⟩ ∧ v.ce = s.ce))
def TalV.better (s : TalV) (v : VoteV) : Bool := v.has && (!s.has || decide (0 < cmpV v.ar v.an s.ar s.an))
def TalV.fresh (s : TalV) (x : Int) : Bool := !decide (x ∈ s.P)
def proB (s : TalV) (x : Int) (v : VoteV) : Bool := s.seat x && s.fits v && s.fresh x
def TalV.said (s : TalV) (x : Int) : TalV := ⟨s.n, s.r, s.k, s.P ++ [x], s.Y, s.ce, s.C, s.has, s.ar, s.an⟩
def TalV.take (s : TalV) (v : VoteV) : TalV := ⟨s.n, s.r, s.k, s.P, s.Y, v.ce, v.C, true, v.ar, v.an⟩
def proS (s : TalV) (x : Int) (v : VoteV) : TalV := if proB s x v = true then (if s.better v = true then (s.said x).take v else s.said x) else s
def rdyB (s : TalV) : Bool := decide (mostV s.n ≤ s.P.length)
def donB (s : TalV) : Bool := decide (mostV s.n ≤ s.Y.length)
def yesB (s : TalV) (x : Int) : Bool := rdyB s && s.seat x && !decide (x ∈ s.Y)
def TalV.yes (s : TalV) (x : Int) : TalV := ⟨s.n, s.r, s.k, s.P, s.Y ++ [x], s.ce, s.C, s.has, s.ar, s.an⟩
def yesS (s : TalV) (x : Int) : TalV := if yesB s x = true then s.yes x else s

/-- Each once, each from 0 on and below n: n at most. -/
theorem few_below : ∀ (n : Nat) (L : List Int), L.Nodup → (∀ x ∈ L, 0 ≤ x ∧ x < (n : Int)) → L.length ≤ n
  | 0, L, _, h => by
    cases L with
    | nil => exact Nat.le_refl _
    | cons x L => have := h x (by simp); omega
  | n + 1, L, hn, h => by
    by_cases hx : (n : Int) ∈ L
    · have h1 := few_below n (L.erase (n : Int)) (hn.erase _) (fun y hy => by
        obtain ⟨a, b⟩ := (hn.mem_erase_iff).1 hy
        have := h y b
        omega)
      rw [List.length_erase_of_mem hx] at h1
      omega
    · have := few_below n L hn (fun y hy => by
        have := h y hy
        have : y ≠ (n : Int) := fun e => hx (e ▸ hy)
        omega)
      omega

/-- A count as it may be. -/
structure TalV.ok (s : TalV) : Prop where
  n : 1 ≤ s.n ∧ s.n ≤ 5
  p : s.P.Nodup ∧ ∀ x ∈ s.P, 0 ≤ x ∧ x < 5
  y : s.Y.Nodup ∧ ∀ x ∈ s.Y, 0 ≤ x ∧ x < 5
  c : s.C.length ≤ 5
theorem TalV.ok.few {s : TalV} (h : s.ok) : s.P.length ≤ 5 ∧ s.Y.length ≤ 5 := ⟨few_below 5 _ h.p.1 h.p.2, few_below 5 _ h.y.1 h.y.2⟩
theorem TalV.ok_first {n : Nat} {r k ce : Int} {C : List Int} (h1 : 1 ≤ n) (h5 : n ≤ 5) (hc : C.length ≤ 5) : (TalV.first n r k ce C).ok :=
  ⟨⟨by show (1 : Int) ≤ n; omega, by show (n : Int) ≤ 5; omega⟩, ⟨List.nodup_nil, fun x hx => by cases hx⟩, ⟨List.nodup_nil, fun x hx => by cases hx⟩, hc⟩
theorem TalV.seat_yes {s : TalV} {x : Int} (h : s.seat x = true) : 0 ≤ x ∧ x < s.n := by simpa [TalV.seat] using h
theorem nodup_snoc {L : List Int} {x : Int} (h : L.Nodup) (hx : x ∉ L) : (L ++ [x]).Nodup := by
  rw [List.nodup_append]
  exact ⟨h, by simp, fun a ha b hb e => by rw [List.mem_singleton] at hb; subst hb; subst e; exact hx ha⟩
theorem TalV.ok_pro {s : TalV} (h : s.ok) (x : Int) (v : VoteV) : (proS s x v).ok := by
  unfold proS
  split
  · rename_i hb
    unfold proB at hb
    simp only [Bool.and_eq_true] at hb
    obtain ⟨⟨h1, h2⟩, h3⟩ := hb
    have hs := TalV.seat_yes h1
    have hn := h.n
    have hp : (s.P ++ [x]).Nodup ∧ ∀ y ∈ s.P ++ [x], 0 ≤ y ∧ y < 5 := ⟨nodup_snoc h.p.1 (by simpa [TalV.fresh] using h3), fun y hy => by
      rcases List.mem_append.1 hy with hy | hy
      · exact h.p.2 y hy
      · rw [List.mem_singleton] at hy; subst hy; omega⟩
    split
    · rename_i hb
      have h4 : v.has = true := by unfold TalV.better at hb; simp only [Bool.and_eq_true] at hb; exact hb.1
      have h5 := (of_decide_eq_true h2).2 h4
      exact ⟨h.n, hp, h.y, h5.2.1.2.2.2.1⟩
    · exact ⟨h.n, hp, h.y, h.c⟩
  · exact h
theorem TalV.ok_yes {s : TalV} (h : s.ok) (x : Int) : (yesS s x).ok := by
  unfold yesS
  split
  · rename_i hb
    unfold yesB at hb
    simp only [Bool.and_eq_true] at hb
    obtain ⟨⟨h1, h2⟩, h3⟩ := hb
    have hs := TalV.seat_yes h2
    have hn := h.n
    exact ⟨h.n, h.p, ⟨nodup_snoc h.y.1 (by simpa using h3), fun y hy => by
      rcases List.mem_append.1 hy with hy | hy
      · exact h.y.2 y hy
      · rw [List.mem_singleton] at hy; subst hy; omega⟩, h.c⟩
  · exact h

/-- May a chain be? Package chain tells it of two that follow one another, of the same nodes. -/
theorem fol_self {L : List Int} (h : 1 ≤ L.length) : Fol L L := Or.inl ⟨fun e => by rw [e] at h; simp at h, List.Sublist.refl _⟩
theorem may_lt {ep : Int} {L : List Int} (h : ChainV.may ⟨ep, L⟩) : ∀ x ∈ L, x < 5 := fun x hx => by have := (h.2.2.2.2.1 x hx).2; omega
theorem may_next {ep : Int} {L : List Int} (h0 : -9223372036854775808 ≤ ep) (h1 : ep ≤ 9223372036854775807) :
    (nextC ep L (wrap64 (ep + 1)) L 5 ∨ nextC (wrap64 (ep - 1)) L ep L 5) ↔ ChainV.may ⟨ep, L⟩ := by
  constructor
  · rintro (h | h)
    · exact h.1
    · exact h.2.1
  · intro h
    have a0 : 0 ≤ ep := h.1
    have a1 : ep ≤ 1073741824 := h.2.1
    by_cases hm : ep < 1073741824
    · left
      have e : wrap64 (ep + 1) = ep + 1 := IntWalk.wrap64_in _ (by omega)
      rw [e]
      exact ⟨h, ⟨by show 0 ≤ ep + 1; omega, by show ep + 1 ≤ 1073741824; omega, h.2.2⟩, may_lt h, may_lt h, rfl, fol_self h.2.2.1⟩
    · right
      have e : wrap64 (ep - 1) = ep - 1 := IntWalk.wrap64_in _ (by omega)
      rw [e]
      exact ⟨⟨by show 0 ≤ ep - 1; omega, by show ep - 1 ≤ 1073741824; omega, h.2.2⟩, h, may_lt h, may_lt h, by omega, fol_self h.2.2.1⟩

/-- Block b is the set of these ints. -/
def SetB (w : World) (b : Nat) (P : List Int) : Prop :=
  ∃ D, w.ownsMap Try.prog 3 (unitElem (H := Unit)) b P.length D ∧ Maps.size D = P.length ∧ ∀ y, (Lit.int .i64 y).wf = true → Maps.has D (.int .i64 y) = decide (y ∈ P)
theorem SetB.lt {w : World} {b : Nat} {P : List Int} (h : SetB w b P) : b < w.heap.size := by
  obtain ⟨D, h, _⟩ := h
  exact h.lt
theorem SetB.of {w w' : World} {b : Nat} {P : List Int} (h : SetB w b P) (he : w'.heap[b]? = w.heap[b]?) : SetB w' b P := by
  obtain ⟨D, ⟨es, clock, hb, r⟩, h2⟩ := h
  exact ⟨D, ⟨es, clock, he.trans hb, r⟩, h2⟩
theorem SetB.on {w w' : World} {b : Nat} {P : List Int} (h : SetB w b P) (hb : Below w.heap.size w w') : SetB w' b P := h.of (hb.block b h.lt)
theorem SetB.keep {S : Nat → Prop} {w w' : World} {b : Nat} {P : List Int} (h : SetB w b P) (ho : Only S w w') (hs : ¬ S b) : SetB w' b P := h.of (ho.block b h.lt hs)
theorem SetB.isMap {w : World} {b : Nat} {P : List Int} (h : SetB w b P) : ∃ es clock, w.heap[b]? = some (.map es clock) := by
  obtain ⟨D, ⟨es, clock, hb, _⟩, _⟩ := h
  exact ⟨es, clock, hb⟩
theorem SetB.made (w : World) : SetB (w.alloc (.map #[] 0)) w.heap.size [] := ⟨.map [], World.ownsMap_made w _ _ _, rfl, fun y _ => by simp [Maps.has]⟩
theorem five_wf {x : Int} (h : 0 ≤ x ∧ x < 5) : (Lit.int .i64 x).wf = true := by
  simp [Lit.wf, IntKind.min, IntKind.max, IntKind.signed, IntKind.bits]
  omega
theorem lit_key (x : Int) : WideAt.IsKeyLit (.int .i64 x) := trivial
/-- What a store of x makes of the datum. -/
theorem set_put {w : World} {b n : Nat} {D : DataW Unit} {P : List Int} {x : Int} (hx : (Lit.int .i64 x).wf = true) (ht : Tidy D) (hs : Maps.size D = P.length) (hh : ∀ y, (Lit.int .i64 y).wf = true → Maps.has D (.int .i64 y) = decide (y ∈ P))
    (ho : w.ownsMap Try.prog 3 (unitElem (H := Unit)) b n (D.put (.int .i64 x) (.agg []))) : SetB w b (if x ∈ P then P else P ++ [x]) := by
  have hsz : Maps.size (D.put (.int .i64 x) (.agg [])) = (if x ∈ P then P else P ++ [x]).length := by
    rw [size_put ht, hh x hx, hs]
    by_cases h : x ∈ P <;> simp [h]
  refine ⟨_, ?_, hsz, fun y hy => ?_⟩
  · obtain ⟨es, clock, hb, F, _, hD⟩ := ho
    refine ⟨es, clock, hb, F, ?_, hD⟩
    have e1 := hsz
    rw [hD] at e1
    have e2 : Maps.size (DataW.map ((es.toList.map (Go.WideElems.rg Try.prog 3 (unitElem (H := Unit)))).foldr DataW.insert [])) = es.size := by simp [Maps.size, length_sorted]
    omega
  · by_cases he : y = x
    · subst he
      rw [has_put_same ht.isMap (lit_key y)]
      by_cases h : y ∈ P <;> simp [h]
    · rw [has_put_other (by simpa using he), hh y hy]
      by_cases h : x ∈ P <;> simp [h, he]

/-- A set that was written holds no cells: rows stand. -/
theorem RowI.map {w w' : World} {v : Value} {L : List Int} (h : RowI w v L) {b : Nat} {P : List Int} (hb : SetB w b P) (ho : Only (· = b) w w') : RowI w' v L :=
  h.keep ho fun c cs hc e => by
    subst e
    obtain ⟨es, clock, hm⟩ := hb.isMap
    rw [hm] at hc
    cases hc
/-- A vote's chain and ballot stored into the count. -/
def takeW (w : World) (p : Nat) (v : VoteV) (cv : Value) : World :=
  ((((w.setCell ⟨p, 5, none⟩ (.int .i64 v.ce)).setCell ⟨p, 6, none⟩ cv).setCell ⟨p, 7, none⟩ (.bool true)).setCell ⟨p, 8, none⟩ (.int .i64 v.ar)).setCell ⟨p, 9, none⟩ (.int .i64 v.an)
end Go.Proofs.Ytomjlhmkmihbeaa
