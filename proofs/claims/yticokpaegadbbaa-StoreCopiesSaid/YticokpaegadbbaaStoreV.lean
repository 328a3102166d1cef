/-
  A STORE AS PLAIN DATA, and the block that holds one (the program's, the reference's); what a request makes of it, as plain functions. No condition.
-/
import Derived.Test.YticokpaegadbbaaChartD
namespace Go.Proofs.Yticokpaegadbbaa
open Go.RowKit

/-- All blocks but b are as they were. -/
structure Besides (b : Nat) (w w' : World) : Prop where
  os : w'.os = w.os
  tape : w'.tape = w.tape
  output : w'.output = w.output
  size : w.heap.size ≤ w'.heap.size
  block : ∀ k, k < w.heap.size → k ≠ b → w'.heap[k]? = w.heap[k]?

theorem Besides.refl (b : Nat) (w : World) : Besides b w w := ⟨rfl, rfl, rfl, Nat.le_refl _, fun _ _ _ => rfl⟩
theorem Besides.trans {b : Nat} {u v w : World} (h : Besides b u v) (k : Besides b v w) : Besides b u w :=
  ⟨k.os.trans h.os, k.tape.trans h.tape, k.output.trans h.output, Nat.le_trans h.size k.size, fun i hi hn => (k.block i (Nat.lt_of_lt_of_le hi h.size) hn).trans (h.block i hi hn)⟩
theorem Besides.of {b : Nat} {w w' : World} (h : Below w.heap.size w w') : Besides b w w' := ⟨h.os, h.tape, h.output, h.size, fun k hk _ => h.block k hk⟩
theorem Besides.setCell (b k : Nat) (w : World) (v : Value) : Besides b w (w.setCell ⟨b, k, none⟩ v) :=
  ⟨rfl, rfl, rfl, by simp [World.setCell], fun j _ hj => Below.heap_setCell _ _ _ _ hj⟩
theorem Besides.alloc (b : Nat) (w : World) (o : Obj) : Besides b w (w.alloc o) := Besides.of ((Below.refl _ _).alloc (Nat.le_refl _) o)
/-- What was there below n ≤ b is as it was. -/
theorem Besides.below {b n : Nat} {a w w' : World} (h : Besides b w w') (hb : Below n a w) (hn : n ≤ b) (hs : n ≤ w.heap.size) : Below n a w' :=
  hb.trans ⟨h.os, h.tape, h.output, h.size, fun k hk => h.block k (by omega) (by omega)⟩
theorem Besides.cell {b : Nat} {w w' : World} (h : Besides b w w') {p : Addr} (hp : p.block < w.heap.size) (hn : p.block ≠ b) : w'.cell? p = w.cell? p := World.cell?_of_block (w := w) (h.block p.block hp hn)
theorem Besides.frozen {b : Nat} {w w' : World} (h : Besides b w w') {p : Addr} (hp : p.block < w.heap.size) (hn : p.block ≠ b) : w'.frozen? p = w.frozen? p := World.frozen?_of_block (w := w) (h.block p.block hp hn)

/-- No cell of block b is a bool: no version lies there. -/
def NoBool (w : World) (b : Nat) : Prop := ∀ o x, w.cell? ⟨b, o, none⟩ ≠ some (.bool x)

theorem Vers.besides {w w' : World} {b B : Nat} {v : Value} {L : List VerV} (h : Vers w B v L) (hB : B ≤ w.heap.size) (hn : NoBool w b) (hb : Besides b w w') : Vers w' B v L := by
  obtain ⟨ao, cap, rfl, h1, h2, h3, h4⟩ := h
  refine ⟨ao, cap, rfl, h1, h2, h3, fun hl => ?_⟩
  obtain ⟨c, off, rfl, hcB, hc⟩ := h4 hl
  have hne : c ≠ b := by
    rintro rfl
    have hpos : 0 < L.length := List.length_pos_iff.2 hl
    exact hn _ _ (hc 0 hpos).1
  exact ⟨c, off, rfl, hcB, fun j hj => ⟨(hb.cell (p := ⟨c, off + j * 2, Option.none⟩) (show c < _ by omega) hne).trans (hc j hj).1, (hb.cell (p := ⟨c, off + j * 2 + 1, Option.none⟩) (show c < _ by omega) hne).trans (hc j hj).2⟩⟩

def updF {α : Type} (f : Nat → α) (i : Nat) (v : α) : Nat → α := fun j => if j = i then v else f j
theorem updF_same {α : Type} (f : Nat → α) (i : Nat) (v : α) : updF f i v i = v := if_pos rfl
theorem updF_other {α : Type} (f : Nat → α) (i : Nat) (v : α) (j : Nat) (h : j ≠ i) : updF f i v j = f j := if_neg h

/-- Block b has n cells, of f. -/
def Blk (w : World) (b : Nat) (t : TypeId) (n : Nat) (f : Nat → Value) : Prop :=
  ∃ row : Array Value, w.heap[b]? = some (.cells row t (0, 0)) ∧ row.size = n ∧ ∀ k, k < n → row[k]? = some (f k)
theorem Blk.cell {w : World} {b : Nat} {t : TypeId} {n : Nat} {f : Nat → Value} (h : Blk w b t n f) (k : Nat) (hk : k < n) : w.cell? ⟨b, k, none⟩ = some (f k) := by
  obtain ⟨row, hb, _, hr⟩ := h
  simp [World.cell?, hb, hr k hk]
theorem Blk.free {w : World} {b : Nat} {t : TypeId} {n : Nat} {f : Nat → Value} (h : Blk w b t n f) (k : Nat) : w.frozen? ⟨b, k, none⟩ = false := by
  obtain ⟨row, hb, _, _⟩ := h
  simp [World.frozen?, hb]
theorem Blk.lt {w : World} {b : Nat} {t : TypeId} {n : Nat} {f : Nat → Value} (h : Blk w b t n f) : b < w.heap.size := by
  obtain ⟨_, hb, _⟩ := h
  exact lt_of_block hb
theorem Blk.of {w w' : World} {b : Nat} {t : TypeId} {n : Nat} {f : Nat → Value} (h : Blk w b t n f) (he : w'.heap[b]? = w.heap[b]?) : Blk w' b t n f := by
  obtain ⟨row, hb, h1, h2⟩ := h
  exact ⟨row, he.trans hb, h1, h2⟩
theorem Blk.set {w : World} {b : Nat} {t : TypeId} {n : Nat} {f : Nat → Value} (h : Blk w b t n f) (k : Nat) (v : Value) : Blk (w.setCell ⟨b, k, none⟩ v) b t n (updF f k v) := by
  obtain ⟨row, hb, h1, h2⟩ := h
  refine ⟨row.setIfInBounds k v, heap_setCell_same _ _ _ _ _ _ hb, by simp [h1], fun j hj => ?_⟩
  by_cases e : j = k
  · subst e
    rw [updF_same]
    simp [h1, hj]
  · rw [updF_other _ _ _ _ e, Array.getElem?_setIfInBounds_ne (by omega), h2 j hj]
theorem Blk.nobool {w : World} {b : Nat} {t : TypeId} {n : Nat} {f : Nat → Value} (h : Blk w b t n f) (hf : ∀ k, k < n → ∀ x, f k ≠ .bool x) : NoBool w b := by
  intro o x hx
  by_cases ho : o < n
  · rw [h.cell o ho] at hx
    exact hf o ho x (by simpa using hx)
  · obtain ⟨row, hb, h1, _⟩ := h
    rw [show w.cell? ⟨b, o, Option.none⟩ = row[o]? by simp [World.cell?, hb], Array.getElem?_eq_none (by omega)] at hx
    cases hx

/-- What is kept of the last request that a client put. -/
structure LastV where
  seq : Int
  code : Int
  ver : Int
  data : ByteArray
  place : Int
structure StoV where
  quota : Int
  places : Int
  cl : Nat → LastV
  res : Nat → List VerV
def zeroL : LastV := ⟨0, 0, 0, ⟨#[]⟩, 0⟩
/-- A new store. -/
def newV (q : Int) : StoV := ⟨q, 0, fun _ => zeroL, fun _ => []⟩

/-- Where things lie in a store's block. -/
structure Lay where
  t : TypeId
  seq : Nat → Nat
  place : Nat → Nat
  code : Nat → Nat
  ver : Nat → Nat
  data : Nat → Nat
  list : Nat → Nat
  res : Nat → Nat
/-- The list of a reply to a request that writes: none. -/
def Nil0 (v : Value) : Prop := ∃ ao cap, v = .slice ao 0 cap ∧ cap ≤ maxLen ∧ (ao = none → cap = 0)
theorem Nil0.ints {v : Value} (h : Nil0 v) (w : World) (B : Nat) : Ints w B v [] := by
  obtain ⟨ao, cap, rfl, h1, h2⟩ := h
  exact ⟨ao, cap, rfl, Nat.zero_le _, h1, h2, fun h => absurd rfl h⟩
theorem Nil0.of {w : World} {B : Nat} {v : Value} (h : Ints w B v []) : Nil0 v := by
  obtain ⟨ao, cap, rfl, _, h1, h2, _⟩ := h
  exact ⟨ao, cap, rfl, h1, h2⟩
theorem Nil0.none : Nil0 (.slice Option.none 0 0) := ⟨_, _, rfl, Nat.zero_le _, fun _ => rfl⟩

/-- The cells f of a store's block tell the store s; the versions lie in w. -/
def Tell (y : Lay) (w : World) (f : Nat → Value) (s : StoV) : Prop :=
  (∀ k, k < 58 → ∀ x, f k ≠ .bool x) ∧ f 0 = .int .i64 s.quota ∧ f 1 = .int .i64 s.places ∧
  (∀ c, c < 4 → f (y.seq c) = .int .i64 (s.cl c).seq ∧ f (y.place c) = .int .i64 (s.cl c).place ∧ f (y.code c) = .int .i64 (s.cl c).code ∧ f (y.ver c) = .int .i64 (s.cl c).ver ∧ f (y.data c) = .string (s.cl c).data ∧ Nil0 (f (y.list c))) ∧
  (∀ i, i < 32 → Vers w w.heap.size (f (y.res i)) (s.res i))
/-- Block b is a store s. -/
def Sto (y : Lay) (w : World) (b : Nat) (s : StoV) : Prop := ∃ f, Blk w b y.t 58 f ∧ Tell y w f s

theorem Tell.vers {y : Lay} {w w' : World} {f : Nat → Value} {s : StoV} (h : Tell y w f s) (hv : ∀ v L, Vers w w.heap.size v L → Vers w' w'.heap.size v L) : Tell y w' f s :=
  ⟨h.1, h.2.1, h.2.2.1, h.2.2.2.1, fun i hi => hv _ _ (h.2.2.2.2 i hi)⟩
theorem Sto.lt {y : Lay} {w : World} {b : Nat} {s : StoV} (h : Sto y w b s) : b < w.heap.size := by obtain ⟨f, hb, _⟩ := h; exact hb.lt
theorem Sto.noBool {y : Lay} {w : World} {b : Nat} {s : StoV} (h : Sto y w b s) : NoBool w b := by obtain ⟨f, hb, ht⟩ := h; exact hb.nobool ht.1
theorem Sto.on {y : Lay} {w w' : World} {b : Nat} {s : StoV} (h : Sto y w b s) (hb : Below w.heap.size w w') : Sto y w' b s := by
  obtain ⟨f, hk, ht⟩ := h
  exact ⟨f, hk.of (hb.block b hk.lt), ht.vers fun v L hv => hv.on hb⟩
theorem Sto.besides {y : Lay} {w w' : World} {b b2 : Nat} {s : StoV} (h : Sto y w b s) (hn : NoBool w b2) (hb : Besides b2 w w') (hne : b ≠ b2) : Sto y w' b s := by
  obtain ⟨f, hk, ht⟩ := h
  exact ⟨f, hk.of (hb.block b hk.lt hne), ht.vers fun v L hv => (hv.besides (Nat.le_refl _) hn hb).mono hb.size⟩
theorem Sto.alloc {y : Lay} {w : World} {b : Nat} {s : StoV} (h : Sto y w b s) (o : Obj) : Sto y (w.alloc o) b s := h.on ((Below.refl _ _).alloc (Nat.le_refl _) o)

/-- What a request that is taken makes of a store. -/
def putV (s : StoV) (c i : Nat) (sq kd mt : Int) (dt : ByteArray) : StoV :=
  { s with places := s.places + 1, cl := updF s.cl c ⟨sq, (doR (s.res i) kd mt s.quota).code, (doR (s.res i) kd mt s.quota).ver, (doR (s.res i) kd mt s.quota).data, s.places + 1⟩, res := updF s.res i (doL (s.res i) kd mt dt s.quota) }
end Go.Proofs.Yticokpaegadbbaa
