/-
  AN ACCEPTOR AS PLAIN DATA: what it knows, what it promised and accepted; what Prepare, Accept, Learn tell and make of it; its block (the program's or the reference's: the same ten cells, their types apart). No condition.
-/
import Derived.Test.YtomjlhmkmihbeaaBallotA
import Derived.Test.YtomjlhmkmihbeaaChainE
namespace Go.Proofs.Ytomjlhmkmihbeaa
open Go.RowKit

/-- A vote as plain data. -/
structure VoteV where
  pr : Int
  pn : Int
  ar : Int
  an : Int
  has : Bool
  ce : Int
  C : List Int
def VoteV.zero : VoteV := ⟨0, 0, 0, 0, false, 0, []⟩
/-- An acceptor as plain data. -/
structure AccV where
  n : Int
  ke : Int
  K : List Int
  v : VoteV

def prepE (s : AccV) (ep r k : Int) : Int := if mayV r k = false then 1 else if ep ≤ s.ke then 7 else if ep ≠ s.ke + 1 then 4 else if cmpV r k s.v.pr s.v.pn < 0 then 7 else 0
def prepS (s : AccV) (ep r k : Int) : AccV := if prepE s ep r k = 0 then ⟨s.n, s.ke, s.K, ⟨r, k, s.v.ar, s.v.an, s.v.has, s.v.ce, s.v.C⟩⟩ else s
def prepV (s : AccV) (ep r k : Int) : VoteV := if prepE s ep r k = 0 then (prepS s ep r k).v else VoteV.zero
def accE (s : AccV) (ec : Int) (L : List Int) (r k : Int) (veto : Bool) : Int :=
  if mayV r k = false ∨ ¬ ChainV.may ⟨ec, L⟩ then 1 else if ec ≤ s.ke then 7 else if ec ≠ s.ke + 1 then 4 else if ¬ nextC s.ke s.K ec L s.n then 1 else if cmpV r k s.v.pr s.v.pn < 0 then 7 else if veto = true then 8 else 0
def accS (s : AccV) (ec : Int) (L : List Int) (r k : Int) (veto : Bool) : AccV := if accE s ec L r k veto = 0 then ⟨s.n, s.ke, s.K, ⟨r, k, r, k, true, ec, L⟩⟩ else s
def lrnE (s : AccV) (ec : Int) (L : List Int) : Int := if ¬ (ChainV.may ⟨ec, L⟩ ∧ ∀ x ∈ L, x < s.n) then 1 else if ec ≤ s.ke then 7 else 0
def lrnS (s : AccV) (ec : Int) (L : List Int) : AccV := if lrnE s ec L = 0 then ⟨s.n, ec, L, VoteV.zero⟩ else s

/-- The errors of a call in their order: what is told so far, then one that applies or does not. -/
def firstV (f : Int) (b : Bool) (e : Int) : Int := if b = true ∧ f = 0 then e else f
theorem firstV_no (f e : Int) : firstV f false e = f := by simp [firstV]
theorem firstV_had {f : Int} (h : f ≠ 0) (b : Bool) (e : Int) : firstV f b e = f := by simp [firstV, h]
theorem firstV_yes (e : Int) : firstV 0 true e = e := by simp [firstV]

theorem first4 (a b c d : Bool) : firstV (firstV (firstV (firstV 0 a 1) b 7) c 4) d 7 = if a = true then 1 else if b = true then 7 else if c = true then 4 else if d = true then 7 else 0 := by cases a <;> cases b <;> cases c <;> cases d <;> rfl
theorem first6 (a b c d e f : Bool) : firstV (firstV (firstV (firstV (firstV (firstV 0 a 1) b 7) c 4) d 1) e 7) f 8 = if a = true then 1 else if b = true then 7 else if c = true then 4 else if d = true then 1 else if e = true then 7 else if f = true then 8 else 0 := by
  cases a <;> cases b <;> cases c <;> cases d <;> cases e <;> cases f <;> rfl
theorem first2 (a b : Bool) : firstV (firstV 0 a 1) b 7 = if a = true then 1 else if b = true then 7 else 0 := by cases a <;> cases b <;> rfl
theorem prep_first (s : AccV) (ep r k : Int) : firstV (firstV (firstV (firstV 0 (!mayV r k) 1) (decide (ep ≤ s.ke)) 7) (decide (ep ≠ s.ke + 1)) 4) (decide (cmpV r k s.v.pr s.v.pn < 0)) 7 = prepE s ep r k := by
  rw [first4]
  simp only [decide_eq_true_eq, Bool.not_eq_true']
  rfl
theorem acc_first (s : AccV) (ec : Int) (L : List Int) (r k : Int) (veto : Bool) :
    firstV (firstV (firstV (firstV (firstV (firstV 0 (decide (mayV r k = false ∨ ¬ ChainV.may ⟨ec, L⟩)) 1) (decide (ec ≤ s.ke)) 7) (decide (ec ≠ s.ke + 1)) 4) (!decide (nextC s.ke s.K ec L s.n)) 1) (decide (cmpV r k s.v.pr s.v.pn < 0)) 7) veto 8 = accE s ec L r k veto := by
  rw [first6]
  simp only [decide_eq_true_eq, Bool.not_eq_true', decide_eq_false_iff_not]
  rfl
theorem lrn_first (s : AccV) (ec : Int) (L : List Int) : firstV (firstV 0 (!decide (ChainV.may ⟨ec, L⟩ ∧ ∀ x ∈ L, x < s.n)) 1) (decide (ec ≤ s.ke)) 7 = lrnE s ec L := by
  rw [first2]
  simp only [decide_eq_true_eq, Bool.not_eq_true', decide_eq_false_iff_not]
  rfl

/-- An acceptor as it may be. -/
structure AccV.ok (s : AccV) : Prop where
  n : 1 ≤ s.n ∧ s.n ≤ 5
  may : ChainV.may ⟨s.ke, s.K⟩
  low : ∀ x ∈ s.K, x < s.n
  p : mayV s.v.pr s.v.pn = true
  a : mayV s.v.ar s.v.an = true
  le : cmpV s.v.ar s.v.an s.v.pr s.v.pn ≤ 0
  yes : s.v.has = true → nextC s.ke s.K s.v.ce s.v.C s.n
  no : s.v.has = false → s.v = ⟨s.v.pr, s.v.pn, 0, 0, false, 0, []⟩
theorem mayV_zero : mayV 0 0 = true := by decide
theorem cmp_zero {r k : Int} (h : mayV r k = true) : cmpV 0 0 r k ≤ 0 := by
  have := mayV_yes.1 h
  unfold cmpV
  split
  · omega
  · rw [if_pos (by omega)]; omega
theorem cmp_trans {a b c d e f : Int} (h : cmpV a b c d ≤ 0) (g : ¬ cmpV e f c d < 0) : cmpV a b e f ≤ 0 := by
  unfold cmpV at h g ⊢
  split at h
  · split
    · omega
    · rw [if_pos]; · omega
      split at g
      · omega
      · split at g <;> omega
  · split at h
    · split
      · omega
      · rw [if_pos]; · omega
        split at g
        · omega
        · split at g <;> omega
    · omega
theorem ok_first (n : Nat) (h1 : 1 ≤ n) (h5 : n ≤ 5) : ChainV.may ⟨1, firstL n⟩ ∧ ∀ x ∈ firstL n, x < (n : Int) := by
  refine ⟨⟨by show (0 : Int) ≤ 1; omega, by show (1 : Int) ≤ 1073741824; omega, by rw [firstL_length]; omega, by rw [firstL_length]; omega, ?_⟩, ?_⟩
  · rcases (show n = 1 ∨ n = 2 ∨ n = 3 ∨ n = 4 ∨ n = 5 by omega) with rfl | rfl | rfl | rfl | rfl <;> decide
  · intro x hx
    unfold firstL at hx
    obtain ⟨y, hy, rfl⟩ := List.mem_map.1 hx
    have := List.mem_range.1 hy
    show (y : Int) < n
    omega
def AccV.first (n : Nat) : AccV := ⟨n, 1, firstL n, VoteV.zero⟩
theorem AccV.ok_first (n : Nat) (h1 : 1 ≤ n) (h5 : n ≤ 5) : (AccV.first n).ok := by
  obtain ⟨a, b⟩ := Ytomjlhmkmihbeaa.ok_first n h1 h5
  exact ⟨⟨by show (1 : Int) ≤ n; omega, by show (n : Int) ≤ 5; omega⟩, a, b, mayV_zero, mayV_zero, cmp_zero mayV_zero, (fun h => by cases h), fun _ => rfl⟩
theorem prepE_zero {s : AccV} {ep r k : Int} (h : prepE s ep r k = 0) : mayV r k = true ∧ ep = s.ke + 1 ∧ ¬ cmpV r k s.v.pr s.v.pn < 0 := by
  unfold prepE at h
  split at h; · omega
  split at h; · omega
  split at h; · omega
  split at h; · omega
  rename_i a b c d
  exact ⟨by cases hm : mayV r k <;> simp_all, by omega, d⟩
theorem accE_zero {s : AccV} {ec : Int} {L : List Int} {r k : Int} {veto : Bool} (h : accE s ec L r k veto = 0) : mayV r k = true ∧ nextC s.ke s.K ec L s.n ∧ ¬ cmpV r k s.v.pr s.v.pn < 0 ∧ veto = false := by
  unfold accE at h
  split at h; · omega
  split at h; · omega
  split at h; · omega
  split at h; · omega
  split at h; · omega
  split at h; · omega
  rename_i a b c d e f
  exact ⟨by cases hm : mayV r k <;> simp_all, Decidable.not_not.1 d, e, by cases veto <;> simp_all⟩
theorem lrnE_zero {s : AccV} {ec : Int} {L : List Int} (h : lrnE s ec L = 0) : ChainV.may ⟨ec, L⟩ ∧ (∀ x ∈ L, x < s.n) ∧ s.ke < ec := by
  unfold lrnE at h
  split at h; · omega
  split at h; · omega
  rename_i a b
  have := Decidable.not_not.1 a
  exact ⟨this.1, this.2, by omega⟩
theorem AccV.ok_prep {s : AccV} (h : s.ok) (ep r k : Int) : (prepS s ep r k).ok := by
  unfold prepS
  split
  · rename_i e
    obtain ⟨h1, h2, h3⟩ := prepE_zero e
    exact ⟨h.n, h.may, h.low, h1, h.a, cmp_trans h.le h3, h.yes, fun e => by have := h.no e; simp only at this ⊢; rw [VoteV.mk.injEq] at this ⊢; simp_all⟩
  · exact h
theorem AccV.ok_acc {s : AccV} (h : s.ok) (ec : Int) (L : List Int) (r k : Int) (veto : Bool) : (accS s ec L r k veto).ok := by
  unfold accS
  split
  · rename_i e
    obtain ⟨h1, h2, h3, h4⟩ := accE_zero e
    exact ⟨h.n, h.may, h.low, h1, h1, by show cmpV r k r k ≤ 0; rw [cmpV_same]; omega, fun _ => h2, fun e => by cases e⟩
  · exact h
theorem AccV.ok_lrn {s : AccV} (h : s.ok) (ec : Int) (L : List Int) : (lrnS s ec L).ok := by
  unfold lrnS
  split
  · rename_i e
    obtain ⟨h1, h2, h3⟩ := lrnE_zero e
    exact ⟨h.n, h1, h2, mayV_zero, mayV_zero, cmp_zero mayV_zero, (fun e => by cases e), fun _ => rfl⟩
  · exact h
theorem AccV.ok.len {s : AccV} (h : s.ok) : s.K.length ≤ 5 ∧ s.v.C.length ≤ 5 := by
  refine ⟨h.may.2.2.2.1, ?_⟩
  cases hh : s.v.has with
  | true => exact (h.yes hh).2.1.2.2.2.1
  | false => rw [h.no hh]; simp
theorem AccV.ok.wrap {s : AccV} (h : s.ok) : wrap64 (s.ke + 1) = s.ke + 1 := by
  have h1 := h.may.1
  have h2 := h.may.2.1
  simp only at h1 h2
  exact IntWalk.wrap64_in _ (by omega)

/-- The slice value v holds the ints L, in a block of ints (by its type). -/
def RowI (w : World) (v : Value) (L : List Int) : Prop :=
  ∃ ao cap, v = .slice ao L.length cap ∧ L.length ≤ cap ∧ cap ≤ maxLen ∧ (ao = none → cap = 0) ∧
    (L ≠ [] → ∃ b off cs, ao = some ⟨b, off, none⟩ ∧ w.heap[b]? = some (.cells cs 3 (0, 0)) ∧ ∀ j, j < L.length → w.cell? ⟨b, off + j, none⟩ = some (.int .i64 (L.getD j 0)))
theorem RowI.none (w : World) : RowI w (.slice none 0 0) [] := ⟨_, _, rfl, Nat.le_refl _, Nat.zero_le _, fun _ => rfl, fun h => absurd rfl h⟩
theorem RowI.ints {w : World} {v : Value} {L : List Int} (h : RowI w v L) : Ints w w.heap.size v L := by
  obtain ⟨ao, cap, rfl, h1, h2, h3, h4⟩ := h
  refine ⟨ao, cap, rfl, h1, h2, h3, fun hl => ?_⟩
  obtain ⟨b, off, cs, rfl, hb, hc⟩ := h4 hl
  exact ⟨b, off, rfl, lt_of_block hb, hc⟩
theorem RowI.own {w : World} {base : Nat} {v : Value} {n : Nat} {L : List Int} (h : w.ownsRow base 3 1 v n (intCells L)) : RowI w v L := by
  have hn : L.length = n := by have := h.1; simp [intCells] at this; omega
  subst hn
  rcases h.2 with ⟨rfl, h0⟩ | ⟨g, cap, cur, rfl, hg, hh, hle, hmax, hsz, htake⟩
  · have : L = [] := List.eq_nil_of_length_eq_zero (by simpa using h0)
    subst this
    exact RowI.none _
  · refine ⟨some ⟨g, 0, Option.none⟩, cap, rfl, hle, hmax, fun h => (by cases h), fun _ => ⟨g, 0, cur, rfl, hh, fun j hj => ?_⟩⟩
    have hx : (intCells L)[j]? = some (.int .i64 (L.getD j 0)) := by simp [intCells, hj]
    have := h.cells (g := g) rfl j _ hx
    rwa [Addr.add_lit] at this
theorem RowI.keep {S : Nat → Prop} {w w' : World} {v : Value} {L : List Int} (h : RowI w v L) (ho : Only S w w') (hs : ∀ b cs, w.heap[b]? = some (.cells cs 3 (0, 0)) → ¬ S b) : RowI w' v L := by
  obtain ⟨ao, cap, rfl, h1, h2, h3, h4⟩ := h
  refine ⟨ao, cap, rfl, h1, h2, h3, fun hl => ?_⟩
  obtain ⟨b, off, cs, rfl, hb, hc⟩ := h4 hl
  have e := ho.block b (lt_of_block hb) (hs b cs hb)
  exact ⟨b, off, cs, rfl, e.trans hb, fun j hj => (World.cell?_of_block (a := ⟨b, off + j, Option.none⟩) e).trans (hc j hj)⟩
theorem RowI.on {w w' : World} {v : Value} {L : List Int} (h : RowI w v L) (hb : Below w.heap.size w w') : RowI w' v L := h.keep (S := fun _ => False) (.of hb) (fun _ _ _ h => h)
/-- A block that holds no row of ints (by its type) is written: the row stands. -/
theorem RowI.beside {w w' : World} {v : Value} {L : List Int} (h : RowI w v L) {p : Nat} {cs : Array Value} {T : TypeId} (hp : w.heap[p]? = some (.cells cs T (0, 0))) (hT : T ≠ 3) (ho : Only (· = p) w w') : RowI w' v L :=
  h.keep ho fun b cs' hb e => by
    subst e
    rw [hp] at hb
    simp only [Option.some.injEq, Obj.cells.injEq] at hb
    exact hT hb.2.1
theorem RowI.shape {w : World} {v : Value} {L : List Int} (h : RowI w v L) : ∃ a c, v = .slice a L.length c := by
  obtain ⟨ao, cap, rfl, _⟩ := h
  exact ⟨_, _, rfl⟩

/-- Block p is an acceptor (T: the program's type, or the reference's). -/
def AccB (T : TypeId) (w : World) (p : Nat) (kv cv : Value) (s : AccV) : Prop :=
  w.heap[p]? = some (.cells #[.int .i64 s.n, .int .i64 s.ke, kv, .int .i64 s.v.pr, .int .i64 s.v.pn, .int .i64 s.v.ar, .int .i64 s.v.an, .bool s.v.has, .int .i64 s.v.ce, cv] T (0, 0))
structure AccR (T : TypeId) (w : World) (p : Nat) (kv cv : Value) (s : AccV) : Prop where
  b : AccB T w p kv cv s
  k : RowI w kv s.K
  c : RowI w cv s.v.C
def Acc (T : TypeId) (w : World) (p : Nat) (s : AccV) : Prop := ∃ kv cv, AccR T w p kv cv s
theorem AccB.lt {T : TypeId} {w : World} {p : Nat} {kv cv : Value} {s : AccV} (h : AccB T w p kv cv s) : p < w.heap.size := lt_of_block h
theorem AccB.cells {T : TypeId} {w : World} {p : Nat} {kv cv : Value} {s : AccV} (h : AccB T w p kv cv s) :
    w.cell? ⟨p, 0, none⟩ = some (.int .i64 s.n) ∧ w.cell? ⟨p, 1, none⟩ = some (.int .i64 s.ke) ∧ w.cell? ⟨p, 2, none⟩ = some kv ∧ w.cell? ⟨p, 3, none⟩ = some (.int .i64 s.v.pr) ∧ w.cell? ⟨p, 4, none⟩ = some (.int .i64 s.v.pn) ∧
    w.cell? ⟨p, 5, none⟩ = some (.int .i64 s.v.ar) ∧ w.cell? ⟨p, 6, none⟩ = some (.int .i64 s.v.an) ∧ w.cell? ⟨p, 7, none⟩ = some (.bool s.v.has) ∧ w.cell? ⟨p, 8, none⟩ = some (.int .i64 s.v.ce) ∧ w.cell? ⟨p, 9, none⟩ = some cv := by
  have h' : w.heap[p]? = some (.cells #[.int .i64 s.n, .int .i64 s.ke, kv, .int .i64 s.v.pr, .int .i64 s.v.pn, .int .i64 s.v.ar, .int .i64 s.v.an, .bool s.v.has, .int .i64 s.v.ce, cv] T (0, 0)) := h
  refine ⟨?_, ?_, ?_, ?_, ?_, ?_, ?_, ?_, ?_, ?_⟩ <;> simp [World.cell?, h']
theorem AccB.free {T : TypeId} {w : World} {p : Nat} {kv cv : Value} {s : AccV} (h : AccB T w p kv cv s) (o : Nat) : w.frozen? ⟨p, o, none⟩ = false := by
  have h' : w.heap[p]? = some (.cells #[.int .i64 s.n, .int .i64 s.ke, kv, .int .i64 s.v.pr, .int .i64 s.v.pn, .int .i64 s.v.ar, .int .i64 s.v.an, .bool s.v.has, .int .i64 s.v.ce, cv] T (0, 0)) := h
  simp [World.frozen?, h']
theorem AccB.keep {S : Nat → Prop} {T : TypeId} {w w' : World} {p : Nat} {kv cv : Value} {s : AccV} (h : AccB T w p kv cv s) (ho : Only S w w') (hs : ¬ S p) : AccB T w' p kv cv s := (ho.block p h.lt hs).trans h
theorem AccB.on {T : TypeId} {w w' : World} {p : Nat} {kv cv : Value} {s : AccV} (h : AccB T w p kv cv s) (hb : Below w.heap.size w w') : AccB T w' p kv cv s := (hb.block p h.lt).trans h
theorem AccR.on {T : TypeId} {w w' : World} {p : Nat} {kv cv : Value} {s : AccV} (h : AccR T w p kv cv s) (hb : Below w.heap.size w w') : AccR T w' p kv cv s := ⟨h.b.on hb, h.k.on hb, h.c.on hb⟩
theorem Acc.on {T : TypeId} {w w' : World} {p : Nat} {s : AccV} (h : Acc T w p s) (hb : Below w.heap.size w w') : Acc T w' p s := by
  obtain ⟨kv, cv, h⟩ := h
  exact ⟨kv, cv, h.on hb⟩
theorem Acc.lt {T : TypeId} {w : World} {p : Nat} {s : AccV} (h : Acc T w p s) : p < w.heap.size := by
  obtain ⟨kv, cv, h⟩ := h
  exact h.b.lt
theorem Acc.kind {T : TypeId} {w : World} {p : Nat} {s : AccV} (h : Acc T w p s) : ∃ cs, w.heap[p]? = some (.cells cs T (0, 0)) := by
  obtain ⟨kv, cv, h⟩ := h
  exact ⟨_, h.b⟩
/-- An acceptor stands while another block is written that holds no row of ints. -/
theorem Acc.beside {T T' : TypeId} {w w' : World} {p q : Nat} {s : AccV} (h : Acc T w p s) {cs : Array Value} (hq : w.heap[q]? = some (.cells cs T' (0, 0))) (hT : T' ≠ 3) (hne : p ≠ q) (ho : Only (· = q) w w') : Acc T w' p s := by
  obtain ⟨kv, cv, h⟩ := h
  exact ⟨kv, cv, h.b.keep ho hne, h.k.beside hq hT ho, h.c.beside hq hT ho⟩

/-- Block g holds a number. -/
def NumB (w : World) (g : Nat) (f : Int) : Prop := w.heap[g]? = some (.cells #[.int .i64 f] 3 (0, 0))
theorem NumB.lt {w : World} {g : Nat} {f : Int} (h : NumB w g f) : g < w.heap.size := lt_of_block h
theorem NumB.fresh (w : World) (f : Int) : NumB (w.alloc (.cells #[.int .i64 f] 3)) w.heap.size f := heap_alloc_new w _
theorem NumB.on {w w' : World} {g : Nat} {f : Int} (h : NumB w g f) (hb : Below w.heap.size w w') : NumB w' g f := (hb.block g h.lt).trans h
theorem NumB.cells {w : World} {g : Nat} {f : Int} (h : NumB w g f) : w.cell? ⟨g, 0, none⟩ = some (.int .i64 f) ∧ w.frozen? ⟨g, 0, none⟩ = false := ⟨cell_of_one h, free_of_one h⟩
theorem NumB.set {w : World} {g : Nat} {f : Int} (h : NumB w g f) (e : Int) : NumB (w.setCell ⟨g, 0, none⟩ (.int .i64 e)) g e := by
  show _ = _
  rw [heap_setCell_same _ _ _ _ _ _ h]
  rfl

/-- A vote stored whole from cell o of block b on. -/
def voteW (w : World) (b o : Nat) (v : VoteV) (cv : Value) : World :=
  ((((((w.setCell ⟨b, o, none⟩ (.int .i64 v.pr)).setCell ⟨b, o + 1, none⟩ (.int .i64 v.pn)).setCell ⟨b, o + 2, none⟩ (.int .i64 v.ar)).setCell ⟨b, o + 3, none⟩ (.int .i64 v.an)).setCell ⟨b, o + 4, none⟩ (.bool v.has)).setCell ⟨b, o + 5, none⟩ (.int .i64 v.ce)).setCell ⟨b, o + 6, none⟩ cv
theorem voteW_row {w : World} {b o : Nat} {v : VoteV} {cv : Value} {cs : Array Value} {T : TypeId} (h : w.heap[b]? = some (.cells cs T (0, 0))) :
    (voteW w b o v cv).heap[b]? = some (.cells (((((((cs.setIfInBounds o (.int .i64 v.pr)).setIfInBounds (o + 1) (.int .i64 v.pn)).setIfInBounds (o + 2) (.int .i64 v.ar)).setIfInBounds (o + 3) (.int .i64 v.an)).setIfInBounds (o + 4) (.bool v.has)).setIfInBounds (o + 5) (.int .i64 v.ce)).setIfInBounds (o + 6) cv) T (0, 0)) := by
  unfold voteW
  exact heap_setCell_same _ _ _ _ _ _ (heap_setCell_same _ _ _ _ _ _ (heap_setCell_same _ _ _ _ _ _ (heap_setCell_same _ _ _ _ _ _ (heap_setCell_same _ _ _ _ _ _ (heap_setCell_same _ _ _ _ _ _ (heap_setCell_same _ _ _ _ _ _ h))))))
theorem voteW_only (w : World) (b o : Nat) (v : VoteV) (cv : Value) : Only (· = b) w (voteW w b o v cv) :=
  ((((((Only.set b o w _).trans (Only.set b (o + 1) _ _)).trans (Only.set b (o + 2) _ _)).trans (Only.set b (o + 3) _ _)).trans (Only.set b (o + 4) _ _)).trans (Only.set b (o + 5) _ _)).trans (Only.set b (o + 6) _ _)
/-- A chain stored whole into the midst of a block. -/
def chainW (w : World) (b o : Nat) (ep : Int) (v : Value) : World := (w.setCell ⟨b, o, none⟩ (.int .i64 ep)).setCell ⟨b, o + 1, none⟩ v
theorem chainW_row {w : World} {b o : Nat} {ep : Int} {v : Value} {cs : Array Value} {T : TypeId} (h : w.heap[b]? = some (.cells cs T (0, 0))) :
    (chainW w b o ep v).heap[b]? = some (.cells ((cs.setIfInBounds o (.int .i64 ep)).setIfInBounds (o + 1) v) T (0, 0)) :=
  heap_setCell_same _ _ _ _ _ _ (heap_setCell_same _ _ _ _ _ _ h)
theorem chainW_only (w : World) (b o : Nat) (ep : Int) (v : Value) : Only (· = b) w (chainW w b o ep v) := (Only.set b o w _).trans (Only.set b (o + 1) _ _)
theorem AccB.voted {T : TypeId} {w : World} {p : Nat} {kv cv cv' : Value} {s : AccV} (h : AccB T w p kv cv s) (v : VoteV) : AccB T (voteW w p 3 v cv') p kv cv' ⟨s.n, s.ke, s.K, v⟩ ∧ Only (· = p) w (voteW w p 3 v cv') :=
  ⟨by show _ = _; rw [voteW_row h]; simp only [Nat.reduceAdd, List.setIfInBounds_toArray, List.set_cons_succ, List.set_cons_zero], voteW_only _ _ _ _ _⟩
theorem AccB.known {T : TypeId} {w : World} {p : Nat} {kv kv' cv : Value} {s : AccV} (h : AccB T w p kv cv s) (ke : Int) (K : List Int) : AccB T (chainW w p 1 ke kv') p kv' cv ⟨s.n, ke, K, s.v⟩ ∧ Only (· = p) w (chainW w p 1 ke kv') :=
  ⟨by show _ = _; rw [chainW_row h]; rfl, chainW_only _ _ _ _ _⟩
theorem AccB.promised {T : TypeId} {w : World} {p : Nat} {kv cv : Value} {s : AccV} (h : AccB T w p kv cv s) (r k : Int) :
    AccB T ((w.setCell ⟨p, 3, none⟩ (.int .i64 r)).setCell ⟨p, 4, none⟩ (.int .i64 k)) p kv cv ⟨s.n, s.ke, s.K, ⟨r, k, s.v.ar, s.v.an, s.v.has, s.v.ce, s.v.C⟩⟩ ∧ Only (· = p) w ((w.setCell ⟨p, 3, none⟩ (.int .i64 r)).setCell ⟨p, 4, none⟩ (.int .i64 k)) := by
  refine ⟨?_, (Only.set p 3 w _).trans (Only.set p 4 _ _)⟩
  show _ = _
  rw [heap_setCell_same _ _ _ _ _ _ (heap_setCell_same _ _ _ _ _ _ h)]
  rfl
end Go.Proofs.Ytomjlhmkmihbeaa
