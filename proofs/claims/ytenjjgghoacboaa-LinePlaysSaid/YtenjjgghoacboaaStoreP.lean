/-
  THE PROGRAM's STORE: its block, New, Put, Ask, Len, Seq, Last, Versions. Merged by gen/merge.py.
-/
import Derived.Test.YtenjjgghoacboaaChartD
import Derived.BigRegion
import Derived.Test.YtenjjgghoacboaaItemA
import Derived.Test.YtenjjgghoacboaaReqA
import Derived.Deep.RegionHeld3
import Derived.Test.YtenjjgghoacboaaChartT
import Derived.Deep.DeepCutAuto
import Derived.StillTailTactics
/-! ## StoreV -/
/-
  A STORE AS PLAIN DATA, and the block that holds one (the program's, the reference's); what a request makes of it, as plain functions. No condition.
-/
namespace Go.Proofs.Ytenjjgghoacboaa
open Go.RowKit

/-- All blocks but b are as they were. -/
structure Besides (b : Nat) (w w' : World) : Prop where
  os : w'.os = w.os
  tape : w'.tape = w.tape
  output : w'.output = w.output
  size : w.heap.size ≤ w'.heap.size
  block : ∀ k, k < w.heap.size → k ≠ b → w'.heap[k]? = w.heap[k]?

theorem Besides.refl (b : Nat) (w : World) : Besides b w w := ⟨rfl, rfl, rfl, Nat.le_refl _, fun _ _ _ => rfl⟩
theorem Besides.trans {b : Nat} {u v w : World} (h : Besides b u v) (k : Besides b v w) : Besides b u w :=
  ⟨k.os.trans h.os, k.tape.trans h.tape, k.output.trans h.output, Nat.le_trans h.size k.size, fun i hi hn => (k.block i (Nat.lt_of_lt_of_le hi h.size) hn).trans (h.block i hi hn)⟩
theorem Besides.of {b : Nat} {w w' : World} (h : Below w.heap.size w w') : Besides b w w' := ⟨h.os, h.tape, h.output, h.size, fun k hk _ => h.block k hk⟩
theorem Besides.setCell (b k : Nat) (w : World) (v : Value) : Besides b w (w.setCell ⟨b, k, none⟩ v) :=
  ⟨rfl, rfl, rfl, by simp [World.setCell], fun j _ hj => Below.heap_setCell _ _ _ _ hj⟩
theorem Besides.alloc (b : Nat) (w : World) (o : Obj) : Besides b w (w.alloc o) := Besides.of ((Below.refl _ _).alloc (Nat.le_refl _) o)
/-- What was there below n ≤ b is as it was. -/
theorem Besides.below {b n : Nat} {a w w' : World} (h : Besides b w w') (hb : Below n a w) (hn : n ≤ b) (hs : n ≤ w.heap.size) : Below n a w' :=
  hb.trans ⟨h.os, h.tape, h.output, h.size, fun k hk => h.block k (by omega) (by omega)⟩
theorem Besides.cell {b : Nat} {w w' : World} (h : Besides b w w') {p : Addr} (hp : p.block < w.heap.size) (hn : p.block ≠ b) : w'.cell? p = w.cell? p := World.cell?_of_block (w := w) (h.block p.block hp hn)
theorem Besides.frozen {b : Nat} {w w' : World} (h : Besides b w w') {p : Addr} (hp : p.block < w.heap.size) (hn : p.block ≠ b) : w'.frozen? p = w.frozen? p := World.frozen?_of_block (w := w) (h.block p.block hp hn)

/-- No cell of block b is a bool: no version lies there. -/
def NoBool (w : World) (b : Nat) : Prop := ∀ o x, w.cell? ⟨b, o, none⟩ ≠ some (.bool x)

theorem Vers.besides {w w' : World} {b B : Nat} {v : Value} {L : List VerV} (h : Vers w B v L) (hB : B ≤ w.heap.size) (hn : NoBool w b) (hb : Besides b w w') : Vers w' B v L := by
  obtain ⟨ao, cap, rfl, h1, h2, h3, h4⟩ := h
  refine ⟨ao, cap, rfl, h1, h2, h3, fun hl => ?_⟩
  obtain ⟨c, off, rfl, hcB, hc⟩ := h4 hl
  have hne : c ≠ b := by
    rintro rfl
    have hpos : 0 < L.length := List.length_pos_iff.2 hl
    exact hn _ _ (hc 0 hpos).1
  exact ⟨c, off, rfl, hcB, fun j hj => ⟨(hb.cell (p := ⟨c, off + j * 2, Option.none⟩) (show c < _ by omega) hne).trans (hc j hj).1, (hb.cell (p := ⟨c, off + j * 2 + 1, Option.none⟩) (show c < _ by omega) hne).trans (hc j hj).2⟩⟩

def updF {α : Type} (f : Nat → α) (i : Nat) (v : α) : Nat → α := fun j => if j = i then v else f j
theorem updF_same {α : Type} (f : Nat → α) (i : Nat) (v : α) : updF f i v i = v := if_pos rfl
theorem updF_other {α : Type} (f : Nat → α) (i : Nat) (v : α) (j : Nat) (h : j ≠ i) : updF f i v j = f j := if_neg h

/-- Block b has n cells, of f. -/
def Blk (w : World) (b : Nat) (t : TypeId) (n : Nat) (f : Nat → Value) : Prop :=
  ∃ row : Array Value, w.heap[b]? = some (.cells row t (0, 0)) ∧ row.size = n ∧ ∀ k, k < n → row[k]? = some (f k)
theorem Blk.cell {w : World} {b : Nat} {t : TypeId} {n : Nat} {f : Nat → Value} (h : Blk w b t n f) (k : Nat) (hk : k < n) : w.cell? ⟨b, k, none⟩ = some (f k) := by
  obtain ⟨row, hb, _, hr⟩ := h
  simp [World.cell?, hb, hr k hk]
theorem Blk.free {w : World} {b : Nat} {t : TypeId} {n : Nat} {f : Nat → Value} (h : Blk w b t n f) (k : Nat) : w.frozen? ⟨b, k, none⟩ = false := by
  obtain ⟨row, hb, _, _⟩ := h
  simp [World.frozen?, hb]
theorem Blk.lt {w : World} {b : Nat} {t : TypeId} {n : Nat} {f : Nat → Value} (h : Blk w b t n f) : b < w.heap.size := by
  obtain ⟨_, hb, _⟩ := h
  exact lt_of_block hb
theorem Blk.of {w w' : World} {b : Nat} {t : TypeId} {n : Nat} {f : Nat → Value} (h : Blk w b t n f) (he : w'.heap[b]? = w.heap[b]?) : Blk w' b t n f := by
  obtain ⟨row, hb, h1, h2⟩ := h
  exact ⟨row, he.trans hb, h1, h2⟩
theorem Blk.set {w : World} {b : Nat} {t : TypeId} {n : Nat} {f : Nat → Value} (h : Blk w b t n f) (k : Nat) (v : Value) : Blk (w.setCell ⟨b, k, none⟩ v) b t n (updF f k v) := by
  obtain ⟨row, hb, h1, h2⟩ := h
  refine ⟨row.setIfInBounds k v, heap_setCell_same _ _ _ _ _ _ hb, by simp [h1], fun j hj => ?_⟩
  by_cases e : j = k
  · subst e
    rw [updF_same]
    simp [h1, hj]
  · rw [updF_other _ _ _ _ e, Array.getElem?_setIfInBounds_ne (by omega), h2 j hj]
theorem Blk.nobool {w : World} {b : Nat} {t : TypeId} {n : Nat} {f : Nat → Value} (h : Blk w b t n f) (hf : ∀ k, k < n → ∀ x, f k ≠ .bool x) : NoBool w b := by
  intro o x hx
  by_cases ho : o < n
  · rw [h.cell o ho] at hx
    exact hf o ho x (by simpa using hx)
  · obtain ⟨row, hb, h1, _⟩ := h
    rw [show w.cell? ⟨b, o, Option.none⟩ = row[o]? by simp [World.cell?, hb], Array.getElem?_eq_none (by omega)] at hx
    cases hx

/-- What is kept of the last request that a client put. -/
structure LastV where
  seq : Int
  code : Int
  ver : Int
  data : ByteArray
  place : Int
structure StoV where
  quota : Int
  places : Int
  cl : Nat → LastV
  res : Nat → List VerV
def zeroL : LastV := ⟨0, 0, 0, ⟨#[]⟩, 0⟩
/-- A new store. -/
def newV (q : Int) : StoV := ⟨q, 0, fun _ => zeroL, fun _ => []⟩

/-- Where things lie in a store's block. -/
structure Lay where
  t : TypeId
  seq : Nat → Nat
  place : Nat → Nat
  code : Nat → Nat
  ver : Nat → Nat
  data : Nat → Nat
  list : Nat → Nat
  res : Nat → Nat
/-- The list of a reply to a request that writes: none. -/
def Nil0 (v : Value) : Prop := ∃ ao cap, v = .slice ao 0 cap ∧ cap ≤ maxLen ∧ (ao = none → cap = 0)
theorem Nil0.ints {v : Value} (h : Nil0 v) (w : World) (B : Nat) : Ints w B v [] := by
  obtain ⟨ao, cap, rfl, h1, h2⟩ := h
  exact ⟨ao, cap, rfl, Nat.zero_le _, h1, h2, fun h => absurd rfl h⟩
theorem Nil0.of {w : World} {B : Nat} {v : Value} (h : Ints w B v []) : Nil0 v := by
  obtain ⟨ao, cap, rfl, _, h1, h2, _⟩ := h
  exact ⟨ao, cap, rfl, h1, h2⟩
theorem Nil0.none : Nil0 (.slice Option.none 0 0) := ⟨_, _, rfl, Nat.zero_le _, fun _ => rfl⟩

/-- The cells f of a store's block tell the store s; the versions lie in w. -/
def Tell (y : Lay) (w : World) (f : Nat → Value) (s : StoV) : Prop :=
  (∀ k, k < 58 → ∀ x, f k ≠ .bool x) ∧ f 0 = .int .i64 s.quota ∧ f 1 = .int .i64 s.places ∧
  (∀ c, c < 4 → f (y.seq c) = .int .i64 (s.cl c).seq ∧ f (y.place c) = .int .i64 (s.cl c).place ∧ f (y.code c) = .int .i64 (s.cl c).code ∧ f (y.ver c) = .int .i64 (s.cl c).ver ∧ f (y.data c) = .string (s.cl c).data ∧ Nil0 (f (y.list c))) ∧
  (∀ i, i < 32 → Vers w w.heap.size (f (y.res i)) (s.res i))
/-- Block b is a store s. -/
def Sto (y : Lay) (w : World) (b : Nat) (s : StoV) : Prop := ∃ f, Blk w b y.t 58 f ∧ Tell y w f s

theorem Tell.vers {y : Lay} {w w' : World} {f : Nat → Value} {s : StoV} (h : Tell y w f s) (hv : ∀ v L, Vers w w.heap.size v L → Vers w' w'.heap.size v L) : Tell y w' f s :=
  ⟨h.1, h.2.1, h.2.2.1, h.2.2.2.1, fun i hi => hv _ _ (h.2.2.2.2 i hi)⟩
theorem Sto.lt {y : Lay} {w : World} {b : Nat} {s : StoV} (h : Sto y w b s) : b < w.heap.size := by obtain ⟨f, hb, _⟩ := h; exact hb.lt
theorem Sto.noBool {y : Lay} {w : World} {b : Nat} {s : StoV} (h : Sto y w b s) : NoBool w b := by obtain ⟨f, hb, ht⟩ := h; exact hb.nobool ht.1
theorem Sto.on {y : Lay} {w w' : World} {b : Nat} {s : StoV} (h : Sto y w b s) (hb : Below w.heap.size w w') : Sto y w' b s := by
  obtain ⟨f, hk, ht⟩ := h
  exact ⟨f, hk.of (hb.block b hk.lt), ht.vers fun v L hv => hv.on hb⟩
theorem Sto.besides {y : Lay} {w w' : World} {b b2 : Nat} {s : StoV} (h : Sto y w b s) (hn : NoBool w b2) (hb : Besides b2 w w') (hne : b ≠ b2) : Sto y w' b s := by
  obtain ⟨f, hk, ht⟩ := h
  exact ⟨f, hk.of (hb.block b hk.lt hne), ht.vers fun v L hv => (hv.besides (Nat.le_refl _) hn hb).mono hb.size⟩
theorem Sto.alloc {y : Lay} {w : World} {b : Nat} {s : StoV} (h : Sto y w b s) (o : Obj) : Sto y (w.alloc o) b s := h.on ((Below.refl _ _).alloc (Nat.le_refl _) o)

/-- What a request that is taken makes of a store. -/
def putV (s : StoV) (c i : Nat) (sq kd mt : Int) (dt : ByteArray) : StoV :=
  { s with places := s.places + 1, cl := updF s.cl c ⟨sq, (doR (s.res i) kd mt s.quota).code, (doR (s.res i) kd mt s.quota).ver, (doR (s.res i) kd mt s.quota).data, s.places + 1⟩, res := updF s.res i (doL (s.res i) kd mt dt s.quota) }
end Go.Proofs.Ytenjjgghoacboaa

/-! ## StoreA -/
/-
  THE PROGRAM's STORE: Len, Seq, Last, Versions: what they tell of a store and of none.
-/
namespace Go.Proofs.Ytenjjgghoacboaa
open Go.RowKit

def layP : Lay := ⟨116, fun c => 2 + c * 6, fun c => 2 + c * 6 + 5, fun c => 2 + c * 6 + 1, fun c => 2 + c * 6 + 2, fun c => 2 + c * 6 + 3, fun c => 2 + c * 6 + 4, fun i => 26 + i⟩

set_option maxHeartbeats 400000 in
theorem slen_r (b : Nat) (s : StoV) (w : World) (h : Sto layP w b s) : Calls Try.prog 85 #[.pointer (some ⟨b, 0, none⟩)] w fun e w' => e = .returned (.int .i64 s.places) ∧ w = w' := by
  obtain ⟨f, hk, ht⟩ := h
  have c1 := hk.cell 1 (by decide)
  rw [ht.2.2.1] at c1
  clear ht hk
  go_enter Try.func85, Try.ntmps85
  go_wp2
  go_returns
  exact ⟨rfl, rfl⟩
set_option maxHeartbeats 400000 in
theorem slen_nil (w : World) : Calls Try.prog 85 #[.pointer none] w fun e w' => e = .returned (.int .i64 0) ∧ w = w' := by
  go_enter Try.func85, Try.ntmps85
  go_wp2
  go_returns
  exact ⟨rfl, rfl⟩

set_option maxHeartbeats 400000 in
theorem lastof_nil (c : Int) (w : World) : Calls Try.prog 117 #[.pointer none, .int .i64 c] w fun e w' => e = .returned (.agg #[.int .i64 0, .int .i64 0, .int .i64 0, .string ⟨#[]⟩, .slice none 0 0, .int .i64 0]) ∧ Below w.heap.size w w' := by
  go_enter Try.func117, Try.ntmps117
  go_wp2
  go_returns
  exact ⟨rfl, by go_grown⟩

set_option maxHeartbeats 400000 in
theorem lastof_out (b : Nat) (c : Int) (hc : c < 0 ∨ 4 ≤ c) (w : World) : Calls Try.prog 117 #[.pointer (some ⟨b, 0, none⟩), .int .i64 c] w fun e w' => e = .returned (.agg #[.int .i64 0, .int .i64 0, .int .i64 0, .string ⟨#[]⟩, .slice none 0 0, .int .i64 0]) ∧ Below w.heap.size w w' := by
  by_cases h1 : c < 0
  · clear hc
    go_enter Try.func117, Try.ntmps117
    go_wp2
    go_returns
    exact ⟨rfl, by go_grown⟩
  · have h2 : 4 ≤ c := by omega
    have h3 : 0 ≤ c := by omega
    clear hc h1
    go_enter Try.func117, Try.ntmps117
    go_wp2
    go_returns
    exact ⟨rfl, by go_grown⟩

/-- The cells of client c. -/
theorem sto_client {b : Nat} {s : StoV} {w : World} (h : Sto layP w b s) (c : Nat) (hc : c < 4) : ∃ v, Nil0 v ∧ w.cell? ⟨b, 2 + c * 6, none⟩ = some (.int .i64 (s.cl c).seq) ∧ w.cell? ⟨b, 2 + c * 6 + 1, none⟩ = some (.int .i64 (s.cl c).code) ∧ w.cell? ⟨b, 2 + c * 6 + 2, none⟩ = some (.int .i64 (s.cl c).ver) ∧
    w.cell? ⟨b, 2 + c * 6 + 3, none⟩ = some (.string (s.cl c).data) ∧ w.cell? ⟨b, 2 + c * 6 + 4, none⟩ = some v ∧ w.cell? ⟨b, 2 + c * 6 + 5, none⟩ = some (.int .i64 (s.cl c).place) := by
  obtain ⟨f, hk, ht⟩ := h
  obtain ⟨g1, g2, g3, g4, g5, g6⟩ := ht.2.2.2.1 c hc
  exact ⟨_, g6, g1 ▸ hk.cell (2 + c * 6) (by omega), g3 ▸ hk.cell (2 + c * 6 + 1) (by omega), g4 ▸ hk.cell (2 + c * 6 + 2) (by omega), g5 ▸ hk.cell (2 + c * 6 + 3) (by omega), hk.cell (2 + c * 6 + 4) (by omega), g2 ▸ hk.cell (2 + c * 6 + 5) (by omega)⟩

/-- What the program keeps of a client. -/
def LastIs (l : LastV) (w : World) (e : Ending) (w' : World) : Prop :=
  ∃ ao cap, e = .returned (.agg #[.int .i64 l.seq, .int .i64 l.code, .int .i64 l.ver, .string l.data, .slice ao 0 cap, .int .i64 l.place]) ∧ Nil0 (.slice ao 0 cap) ∧ Below w.heap.size w w'

set_option maxHeartbeats 1000000 in
theorem lastof_r (b c : Nat) (s : StoV) (w : World) (hc : c < 4) (h : Sto layP w b s) : Calls Try.prog 117 #[.pointer (some ⟨b, 0, none⟩), .int .i64 c] w (LastIs (s.cl c) w) := by
  have hlt := h.lt
  obtain ⟨v, hv, c1, c2, c3, c4, c5, c6⟩ := sto_client h c hc
  obtain ⟨ao, cap, rfl, hv1⟩ := hv
  have HV : Hid (Nil0 (.slice ao 0 cap)) := ⟨ao, cap, rfl, hv1⟩
  clear h hv1
  have hc' : (c : Int) < 4 := by omega
  have hc0 : (0 : Int) ≤ (c : Int) := by omega
  generalize s.cl c = l at c1 c2 c3 c4 c5 c6 ⊢
  obtain ⟨sq, cd, vr, dt, pl⟩ := l
  simp only at c1 c2 c3 c4 c5 c6
  go_enter Try.func117, Try.ntmps117
  go_wp2
  go_returns
  exact ⟨ao, cap, rfl, HV.out, by go_grown⟩

theorem run_seq (a b c d e f : Value) (u : World) : (Instr.field 110 (.agg #[a, b, c, d, e, f]) 0).run Try.prog u = .ok a u := by kernel_rfl

/-- The last request of a client: none of its own, if there is no such client. -/
def lastV (s : StoV) (c : Int) : LastV := if 0 ≤ c ∧ c < 4 then s.cl c.toNat else zeroL
theorem lastof_any (b : Nat) (c : Int) (s : StoV) (w : World) (h : Sto layP w b s) : Calls Try.prog 117 #[.pointer (some ⟨b, 0, none⟩), .int .i64 c] w (LastIs (lastV s c) w) := by
  by_cases hc : 0 ≤ c ∧ c < 4
  · have h' := lastof_r b c.toNat s w (by omega) h
    rw [Int.toNat_of_nonneg hc.1] at h'
    rw [lastV, if_pos hc]
    exact h'
  · rw [lastV, if_neg hc]
    exact (lastof_out b c (by omega) w).mono fun e w' ⟨he, hb⟩ => ⟨none, 0, he, Nil0.none, hb⟩

set_option maxHeartbeats 1000000 in
theorem sseq_of (p : Option Addr) (c : Int) (l : LastV) (w : World) (H : Hid (Calls Try.prog 117 #[.pointer p, .int .i64 c] w (LastIs l w))) :
    Calls Try.prog 90 #[.pointer p, .int .i64 c] w fun e w' => e = .returned (.int .i64 l.seq) ∧ Below w.heap.size w w' := by
  have q1 := run_seq
  obtain ⟨sq, cd, vr, dt, pl⟩ := l
  go_enter Try.func90, Try.ntmps90
  go_wp2_with fail
  refine H.out.mono ?_
  rintro e w1 ⟨ao, cap, rfl, _, hb⟩
  have HB := Lib.hid hb
  clear hb
  go_wp2
  go_returns
  exact ⟨rfl, HB.out⟩
theorem sseq_r (b : Nat) (c : Int) (s : StoV) (w : World) (h : Sto layP w b s) : Calls Try.prog 90 #[.pointer (some ⟨b, 0, none⟩), .int .i64 c] w fun e w' => e = .returned (.int .i64 (lastV s c).seq) ∧ Below w.heap.size w w' :=
  sseq_of _ c _ w (lastof_any b c s w h)
theorem sseq_nil (c : Int) (w : World) : Calls Try.prog 90 #[.pointer none, .int .i64 c] w fun e w' => e = .returned (.int .i64 0) ∧ Below w.heap.size w w' :=
  sseq_of _ c zeroL w ((lastof_nil c w).mono fun _ _ ⟨he, hb⟩ => ⟨none, 0, he, Nil0.none, hb⟩)

/-- What Last tells. -/
def LastTold (l : LastV) (w : World) (e : Ending) (w' : World) : Prop :=
  ∃ ao cap, e = .returned (.tuple #[.agg #[.int .i64 l.code, .int .i64 l.ver, .string l.data, .slice ao 0 cap], .int .i64 l.place]) ∧ Nil0 (.slice ao 0 cap) ∧ Below w.heap.size w w'
set_option maxHeartbeats 1000000 in
theorem slast_of (p : Option Addr) (c : Int) (l : LastV) (w : World) (H : Hid (∀ o, Calls Try.prog 117 #[.pointer p, .int .i64 c] (w.alloc o) (LastIs l (w.alloc o)))) :
    Calls Try.prog 89 #[.pointer p, .int .i64 c] w (LastTold l w) := by
  obtain ⟨sq, cd, vr, dt, pl⟩ := l
  go_enter Try.func89, Try.ntmps89
  go_wp2_with fail
  refine (H.out _).mono ?_
  rintro e w1 ⟨ao, cap, rfl, hn, hb⟩
  have HN := Lib.hid hn
  have HB := Lib.hid (((Below.refl _ w).alloc (Nat.le_refl _) _).trans (hb.mono (by simp)))
  have R1 : RepAt w1 w.heap.size 0 0 ⟨#[]⟩ (.slice none 0 0) := RepAt.keep (RepAt.new w 0 0 ⟨#[]⟩ (.slice none 0 0)) hb (by simp)
  have hlt := R1.lt
  have HE := Lib.hid ((rep_stored (c' := cd) (n' := vr) (d' := dt) R1 (.slice ao 0 cap)).alloc (.cells #[.int .i64 sq, .int .i64 cd, .int .i64 vr, .string dt, .slice ao 0 cap, .int .i64 pl] 110)).cells.1
  obtain ⟨⟨d0, d1, d2, d3⟩, ⟨z0, z1, z2, z3⟩⟩ := R1.cells
  clear hb hn R1
  go_wp2
  go_region
  all_goals
    go_wp2
    obtain ⟨e0, e1, e2, e3⟩ := HE.out
    unfold stored at e0 e1 e2 e3
    refine bodyPost_ret (v := .tuple #[.agg #[.int .i64 cd, .int .i64 vr, .string dt, .slice ao 0 cap], .int .i64 pl]) (by simp [results, Try.results89, go_sem, e0, e1, e2, e3]) rfl ⟨ao, cap, rfl, HN.out, ?_⟩
    exact (Below.alloc (stored_below HB.out (Nat.le_refl _) cd vr dt (.slice ao 0 cap)) (by have := HB.out.size; rw [stored_size]; exact this) _).drew
theorem slast_r (b : Nat) (c : Int) (s : StoV) (w : World) (h : Sto layP w b s) : Calls Try.prog 89 #[.pointer (some ⟨b, 0, none⟩), .int .i64 c] w (LastTold (lastV s c) w) :=
  slast_of _ c _ w (fun o => lastof_any b c s _ (h.alloc o))
theorem slast_nil (c : Int) (w : World) : Calls Try.prog 89 #[.pointer none, .int .i64 c] w (LastTold zeroL w) :=
  slast_of _ c zeroL w (fun o => (lastof_nil c (w.alloc o)).mono fun _ _ ⟨he, hb⟩ => ⟨none, 0, he, Nil0.none, hb⟩)

/-! ### a resource's versions -/
set_option maxHeartbeats 400000 in
theorem of_out (p : Option Addr) (i : Int) (hi : i < 0 ∨ 32 ≤ i) (w : World) : Calls Try.prog 99 #[.pointer p, .int .i64 i] w fun e w' => e = .returned (.slice none 0 0) ∧ w = w' := by
  by_cases h1 : i < 0
  · clear hi
    go_enter Try.func99, Try.ntmps99
    go_wp2
    go_returns
    exact ⟨rfl, rfl⟩
  · have h2 : 32 ≤ i := by omega
    have h3 : 0 ≤ i := by omega
    clear hi h1
    go_enter Try.func99, Try.ntmps99
    go_wp2
    go_returns
    exact ⟨rfl, rfl⟩
set_option maxHeartbeats 400000 in
theorem of_r (b i : Nat) (ao : Option Addr) (n cap : Nat) (w : World) (hi : i < 32) (hc : w.cell? ⟨b, 26 + i, none⟩ = some (.slice ao n cap)) :
    Calls Try.prog 99 #[.pointer (some ⟨b, 26, none⟩), .int .i64 i] w fun e w' => e = .returned (.slice ao n cap) ∧ w = w' := by
  have i0 : (0 : Int) ≤ (i : Int) := by omega
  have i1 : (i : Int) < 32 := by omega
  go_enter Try.func99, Try.ntmps99
  go_wp2
  go_returns
  exact ⟨rfl, rfl⟩

theorem sto_res {b : Nat} {s : StoV} {w : World} (h : Sto layP w b s) (i : Nat) (hi : i < 32) : ∃ ao cap, w.cell? ⟨b, 26 + i, none⟩ = some (.slice ao (s.res i).length cap) ∧ Vers w w.heap.size (.slice ao (s.res i).length cap) (s.res i) := by
  obtain ⟨f, hk, ht⟩ := h
  have hv := ht.2.2.2.2 i hi
  have hc := hk.cell (26 + i) (by omega)
  obtain ⟨ao, cap, he⟩ := hv.shape
  rw [show f (26 + i) = f (layP.res i) from rfl, he] at hc
  rw [he] at hv
  exact ⟨ao, cap, hc, hv⟩

def resV (s : StoV) (i : Int) : List VerV := if 0 ≤ i ∧ i < 32 then s.res i.toNat else []
set_option maxHeartbeats 1000000 in
theorem sversions_of (b : Nat) (i : Int) (v : Value) (n : Nat) (L : List VerV) (w : World) (HO : Hid (Calls Try.prog 99 #[.pointer (some ⟨b, 26, none⟩), .int .i64 i] w fun e w' => e = .returned v ∧ w = w'))
    (HK : Hid (Calls Try.prog 118 #[v] w fun e w' => ∃ v', e = .returned v' ∧ w'.ownsRow w.heap.size 121 2 v' n (verCells L) ∧ Below w.heap.size w w')) :
    Calls Try.prog 92 #[.pointer (some ⟨b, 0, none⟩), .int .i64 i] w fun e w' => ∃ v', e = .returned v' ∧ w'.ownsRow w.heap.size 121 2 v' n (verCells L) ∧ Below w.heap.size w w' := by
  go_enter Try.func92, Try.ntmps92
  go_wp2_with fail
  refine HO.out.mono ?_
  rintro e w1 ⟨rfl, rfl⟩
  go_wp2_with fail
  refine HK.out.mono ?_
  rintro e w1 ⟨v', rfl, hown, hb⟩
  have HW := Lib.hid hown
  have HB := Lib.hid hb
  clear hown hb
  go_wp2
  go_returns
  exact ⟨v', rfl, HW.out, HB.out⟩
set_option maxHeartbeats 400000 in
theorem sversions_nil (i : Int) (w : World) : Calls Try.prog 92 #[.pointer none, .int .i64 i] w fun e w' => e = .returned (.slice none 0 0) ∧ w = w' := by
  go_enter Try.func92, Try.ntmps92
  go_wp2
  go_returns
  exact ⟨rfl, rfl⟩
theorem sversions_r (b : Nat) (i : Int) (s : StoV) (w : World) (h : Sto layP w b s) (hl : (resV s i).length ≤ 1000000) :
    Calls Try.prog 92 #[.pointer (some ⟨b, 0, none⟩), .int .i64 i] w fun e w' => ∃ v', e = .returned v' ∧ w'.ownsRow w.heap.size 121 2 v' (resV s i).length (verCells (resV s i)) ∧ Below w.heap.size w w' := by
  by_cases hi : 0 ≤ i ∧ i < 32
  · obtain ⟨ao, cap, hc, hv⟩ := sto_res h i.toNat (by omega)
    have ho := of_r b i.toNat ao _ cap w (by omega) hc
    rw [Int.toNat_of_nonneg hi.1] at ho
    rw [resV, if_pos hi] at hl ⊢
    exact sversions_of b i _ _ _ w ho (clonev_any _ _ _ w hv (Nat.le_refl _) hl)
  · rw [resV, if_neg hi]
    exact sversions_of b i _ _ _ w (of_out _ i (by omega) w) (clonev_any _ _ [] w (Vers.none w w.heap.size) (Nat.le_refl _) (Nat.zero_le _))
end Go.Proofs.Ytenjjgghoacboaa

/-! ## StoreN -/
/-
  THE PROGRAM's STORE: New; Put where it refuses. No condition but that the request can be read.
-/
namespace Go.Proofs.Ytenjjgghoacboaa
open Go.RowKit

/-- The cells of a new store. -/
def newF (q : Int) (k : Nat) : Value :=
  if k = 0 then .int .i64 q else if k = 1 then .int .i64 0 else if k < 26 then (if k % 6 = 5 then .string ⟨#[]⟩ else if k % 6 = 0 then .slice none 0 0 else .int .i64 0) else .slice none 0 0
theorem newF_row (q : Int) (row : Array Value) (h : row.toList = (List.range 58).map (newF q)) : row.size = 58 ∧ ∀ k, k < 58 → row[k]? = some (newF q k) := by
  refine ⟨by rw [← Array.length_toList, h]; simp, fun k hk => ?_⟩
  rw [← Array.getElem?_toList, h]
  simp [hk]
theorem newF_tell (q : Int) (w : World) : Tell layP w (newF q) (newV q) := by
  refine ⟨fun k hk x => ?_, rfl, rfl, fun c hc => ?_, fun i hi => ?_⟩
  · unfold newF
    repeat' split
    all_goals simp
  · match c, hc with
    | 0, _ => exact ⟨rfl, rfl, rfl, rfl, rfl, Nil0.none⟩
    | 1, _ => exact ⟨rfl, rfl, rfl, rfl, rfl, Nil0.none⟩
    | 2, _ => exact ⟨rfl, rfl, rfl, rfl, rfl, Nil0.none⟩
    | 3, _ => exact ⟨rfl, rfl, rfl, rfl, rfl, Nil0.none⟩
  · have e : newF q (layP.res i) = .slice none 0 0 := by
      show newF q (26 + i) = _
      unfold newF
      rw [if_neg (by omega), if_neg (by omega), if_neg (by omega)]
    rw [e]
    exact Vers.none _ _

/-- A new store, and nothing else. -/
def Made (q : Int) (w : World) (e : Ending) (w' : World) : Prop :=
  e = .returned (.tuple #[.pointer (some ⟨w.heap.size, 0, none⟩), .int .i64 0]) ∧ Sto layP w' w.heap.size (newV q) ∧ w'.heap.size = w.heap.size + 1 ∧ Below w.heap.size w w'

set_option maxRecDepth 100000 in
set_option maxHeartbeats 1000000 in
theorem snew_r (q : Int) (h1 : 1 ≤ q) (h2 : q ≤ 100) (w : World) : Calls Try.prog 44 #[.int .i64 q] w (Made q w) := by
  go_enter Try.func44, Try.ntmps44
  go_wp2
  go_returns
  refine ⟨rfl, ?_, by simp, by go_grown⟩
  obtain ⟨g1, g2⟩ := newF_row q _ (by rfl)
  exact ⟨newF q, ⟨_, heap_alloc_new w _, g1, g2⟩, newF_tell q _⟩

set_option maxHeartbeats 400000 in
theorem snew_bad (q : Int) (h : q < 1 ∨ 100 < q) (w : World) : Calls Try.prog 44 #[.int .i64 q] w fun e w' => e = .returned (.tuple #[.pointer none, .int .i64 1]) ∧ w = w' := by
  by_cases h1 : q < 1
  · clear h
    go_enter Try.func44, Try.ntmps44
    go_wp2
    go_returns
    exact ⟨rfl, rfl⟩
  · have h2 : 100 < q := by omega
    have h3 : 1 ≤ q := by omega
    clear h h1
    go_enter Try.func44, Try.ntmps44
    go_wp2
    go_returns
    exact ⟨rfl, rfl⟩

/-- What is told of a request that is refused. -/
def Refused (x : Int) (w : World) (e : Ending) (w' : World) : Prop := e = .returned (.tuple #[.agg #[.int .i64 0, .int .i64 0, .string ⟨#[]⟩, .slice none 0 0], .int .i64 x]) ∧ Below w.heap.size w w'

set_option maxRecDepth 100000 in
set_option maxHeartbeats 1000000 in
theorem sput_nil (cl sq kd id mt : Int) (dt : ByteArray) (w : World) :
    Calls Try.prog 63 #[.pointer none, .agg #[.int .i64 cl, .int .i64 sq, .int .i64 kd, .int .i64 id, .int .i64 mt, .string dt]] w (Refused 1 w) := by
  go_enter Try.func63, Try.ntmps63
  go_wp2
  go_returns
  exact ⟨rfl, by go_grown⟩
set_option maxRecDepth 100000 in
set_option maxHeartbeats 1000000 in
theorem sask_nil (cl sq kd id mt : Int) (dt : ByteArray) (w : World) :
    Calls Try.prog 69 #[.pointer none, .agg #[.int .i64 cl, .int .i64 sq, .int .i64 kd, .int .i64 id, .int .i64 mt, .string dt]] w (Refused 1 w) := by
  go_enter Try.func69, Try.ntmps69
  go_wp2
  go_returns
  exact ⟨rfl, by go_grown⟩

set_option maxRecDepth 100000 in
set_option maxHeartbeats 1000000 in
theorem sput_bad1 (b : Nat) (cl sq kd id mt : Int) (dt : ByteArray) (w : World) (HM : Hid (∀ u, Calls Try.prog 59 #[.agg #[.int .i64 cl, .int .i64 sq, .int .i64 kd, .int .i64 id, .int .i64 mt, .string dt]] u fun e w' => e = .returned (.bool false) ∧ Below u.heap.size u w')) :
    Calls Try.prog 63 #[.pointer (some ⟨b, 0, none⟩), .agg #[.int .i64 cl, .int .i64 sq, .int .i64 kd, .int .i64 id, .int .i64 mt, .string dt]] w (Refused 1 w) := by
  go_enter Try.func63, Try.ntmps63
  go_wp2_with fail
  refine (HM.out _).mono ?_
  rintro e w1 ⟨rfl, B1⟩
  have C1 : Hid (Below w.heap.size w w1) := (((Below.refl _ w).alloc (Nat.le_refl _) _).alloc (by simp) _).trans (B1.mono (by simp; omega))
  have R1 : RepAt w1 (w.heap.size + 1) 0 0 ⟨#[]⟩ (.slice none 0 0) := RepAt.keep (RepAt.new1 w _ 0 0 ⟨#[]⟩ (.slice none 0 0)) B1 (by simp)
  have HE := Lib.hid (rep_stored (c' := 0) (n' := 0) (d' := ⟨#[]⟩) R1 (.slice none 0 0)).cells.1
  have hlt := R1.lt
  obtain ⟨⟨d0, d1, d2, d3⟩, ⟨z0, z1, z2, z3⟩⟩ := R1.cells
  clear B1 R1
  go_wp2
  obtain ⟨e0, e1, e2, e3⟩ := HE.out
  unfold stored at e0 e1 e2 e3
  refine bodyPost_ret (v := .tuple #[.agg #[.int .i64 0, .int .i64 0, .string ⟨#[]⟩, .slice none 0 0], .int .i64 1]) (by simp [results, Try.results63, go_sem, e0, e1, e2, e3]) rfl ⟨rfl, ?_⟩
  exact stored_below C1.out (Nat.le_succ _) _ _ _ _

set_option maxRecDepth 100000 in
set_option maxHeartbeats 1000000 in
theorem sput_bad2 (b : Nat) (cl sq kd id mt : Int) (dt : ByteArray) (w : World) (HM : Hid (∀ u, Calls Try.prog 59 #[.agg #[.int .i64 cl, .int .i64 sq, .int .i64 kd, .int .i64 id, .int .i64 mt, .string dt]] u fun e w' => e = .returned (.bool true) ∧ Below u.heap.size u w'))
    (HW : Hid (∀ u, Calls Try.prog 60 #[.agg #[.int .i64 cl, .int .i64 sq, .int .i64 kd, .int .i64 id, .int .i64 mt, .string dt]] u fun e w' => e = .returned (.bool false) ∧ Below u.heap.size u w')) :
    Calls Try.prog 63 #[.pointer (some ⟨b, 0, none⟩), .agg #[.int .i64 cl, .int .i64 sq, .int .i64 kd, .int .i64 id, .int .i64 mt, .string dt]] w (Refused 1 w) := by
  go_enter Try.func63, Try.ntmps63
  go_wp2_with fail
  refine (HM.out _).mono ?_
  rintro e w1 ⟨rfl, B1⟩
  have C1 : Hid (Below w.heap.size w w1) := (((Below.refl _ w).alloc (Nat.le_refl _) _).alloc (by simp) _).trans (B1.mono (by simp; omega))
  have R1 : Hid (RepAt w1 (w.heap.size + 1) 0 0 ⟨#[]⟩ (.slice none 0 0)) := RepAt.keep (RepAt.new1 w _ 0 0 ⟨#[]⟩ (.slice none 0 0)) B1 (by simp)
  have D1 : Hid (ReqB w1 w.heap.size cl sq kd id mt dt) := ((ReqB.fresh w cl sq kd id mt dt 34).keep ((Below.refl (w.heap.size + 1) _).alloc (by simp) _) (by omega)).keep B1 (by simp; omega)
  clear B1
  obtain ⟨c0, c1, c2, c3, c4, c5⟩ := D1.out.cells
  go_wp2_with fail
  refine (HW.out _).mono ?_
  rintro e w2 ⟨rfl, B2⟩
  have C2 : Hid (Below w.heap.size w w2) := C1.out.trans (B2.mono C1.out.size)
  have R2 := R1.out.keep B2 R1.out.lt
  have HE := Lib.hid (rep_stored (c' := 0) (n' := 0) (d' := ⟨#[]⟩) R2 (.slice none 0 0)).cells.1
  have hlt := R2.lt
  obtain ⟨⟨d0, d1, d2, d3⟩, ⟨z0, z1, z2, z3⟩⟩ := R2.cells
  clear B2 R2 R1 D1 C1 c0 c1 c2 c3 c4 c5
  go_wp2
  obtain ⟨e0, e1, e2, e3⟩ := HE.out
  unfold stored at e0 e1 e2 e3
  refine bodyPost_ret (v := .tuple #[.agg #[.int .i64 0, .int .i64 0, .string ⟨#[]⟩, .slice none 0 0], .int .i64 1]) (by simp [results, Try.results63, go_sem, e0, e1, e2, e3]) rfl ⟨rfl, ?_⟩
  exact stored_below C2.out (Nat.le_succ _) _ _ _ _

set_option maxRecDepth 100000 in
set_option maxHeartbeats 1000000 in
theorem sask_bad1 (b : Nat) (cl sq kd id mt : Int) (dt : ByteArray) (w : World) (HM : Hid (∀ u, Calls Try.prog 59 #[.agg #[.int .i64 cl, .int .i64 sq, .int .i64 kd, .int .i64 id, .int .i64 mt, .string dt]] u fun e w' => e = .returned (.bool false) ∧ Below u.heap.size u w')) :
    Calls Try.prog 69 #[.pointer (some ⟨b, 0, none⟩), .agg #[.int .i64 cl, .int .i64 sq, .int .i64 kd, .int .i64 id, .int .i64 mt, .string dt]] w (Refused 1 w) := by
  go_enter Try.func69, Try.ntmps69
  go_wp2_with fail
  refine (HM.out _).mono ?_
  rintro e w1 ⟨rfl, B1⟩
  have C1 : Hid (Below w.heap.size w w1) := (((Below.refl _ w).alloc (Nat.le_refl _) _).alloc (by simp) _).trans (B1.mono (by simp; omega))
  have R1 : RepAt w1 (w.heap.size + 1) 0 0 ⟨#[]⟩ (.slice none 0 0) := RepAt.keep (RepAt.new1 w _ 0 0 ⟨#[]⟩ (.slice none 0 0)) B1 (by simp)
  have HE := Lib.hid (rep_stored (c' := 0) (n' := 0) (d' := ⟨#[]⟩) R1 (.slice none 0 0)).cells.1
  have hlt := R1.lt
  obtain ⟨⟨d0, d1, d2, d3⟩, ⟨z0, z1, z2, z3⟩⟩ := R1.cells
  clear B1 R1
  go_wp2
  obtain ⟨e0, e1, e2, e3⟩ := HE.out
  unfold stored at e0 e1 e2 e3
  refine bodyPost_ret (v := .tuple #[.agg #[.int .i64 0, .int .i64 0, .string ⟨#[]⟩, .slice none 0 0], .int .i64 1]) (by simp [results, Try.results69, go_sem, e0, e1, e2, e3]) rfl ⟨rfl, ?_⟩
  exact stored_below C1.out (Nat.le_succ _) _ _ _ _

set_option maxRecDepth 100000 in
set_option maxHeartbeats 1000000 in
theorem sask_bad2 (b : Nat) (cl sq kd id mt : Int) (dt : ByteArray) (w : World) (HM : Hid (∀ u, Calls Try.prog 59 #[.agg #[.int .i64 cl, .int .i64 sq, .int .i64 kd, .int .i64 id, .int .i64 mt, .string dt]] u fun e w' => e = .returned (.bool true) ∧ Below u.heap.size u w'))
    (HW : Hid (∀ u, Calls Try.prog 60 #[.agg #[.int .i64 cl, .int .i64 sq, .int .i64 kd, .int .i64 id, .int .i64 mt, .string dt]] u fun e w' => e = .returned (.bool true) ∧ Below u.heap.size u w')) :
    Calls Try.prog 69 #[.pointer (some ⟨b, 0, none⟩), .agg #[.int .i64 cl, .int .i64 sq, .int .i64 kd, .int .i64 id, .int .i64 mt, .string dt]] w (Refused 1 w) := by
  go_enter Try.func69, Try.ntmps69
  go_wp2_with fail
  refine (HM.out _).mono ?_
  rintro e w1 ⟨rfl, B1⟩
  have C1 : Hid (Below w.heap.size w w1) := (((Below.refl _ w).alloc (Nat.le_refl _) _).alloc (by simp) _).trans (B1.mono (by simp; omega))
  have R1 : Hid (RepAt w1 (w.heap.size + 1) 0 0 ⟨#[]⟩ (.slice none 0 0)) := RepAt.keep (RepAt.new1 w _ 0 0 ⟨#[]⟩ (.slice none 0 0)) B1 (by simp)
  have D1 : Hid (ReqB w1 w.heap.size cl sq kd id mt dt) := ((ReqB.fresh w cl sq kd id mt dt 34).keep ((Below.refl (w.heap.size + 1) _).alloc (by simp) _) (by omega)).keep B1 (by simp; omega)
  clear B1
  obtain ⟨c0, c1, c2, c3, c4, c5⟩ := D1.out.cells
  go_wp2_with fail
  refine (HW.out _).mono ?_
  rintro e w2 ⟨rfl, B2⟩
  have C2 : Hid (Below w.heap.size w w2) := C1.out.trans (B2.mono C1.out.size)
  have R2 := R1.out.keep B2 R1.out.lt
  have HE := Lib.hid (rep_stored (c' := 0) (n' := 0) (d' := ⟨#[]⟩) R2 (.slice none 0 0)).cells.1
  have hlt := R2.lt
  obtain ⟨⟨d0, d1, d2, d3⟩, ⟨z0, z1, z2, z3⟩⟩ := R2.cells
  clear B2 R2 R1 D1 C1 c0 c1 c2 c3 c4 c5
  go_wp2
  obtain ⟨e0, e1, e2, e3⟩ := HE.out
  unfold stored at e0 e1 e2 e3
  refine bodyPost_ret (v := .tuple #[.agg #[.int .i64 0, .int .i64 0, .string ⟨#[]⟩, .slice none 0 0], .int .i64 1]) (by simp [results, Try.results69, go_sem, e0, e1, e2, e3]) rfl ⟨rfl, ?_⟩
  exact stored_below C2.out (Nat.le_succ _) _ _ _ _
end Go.Proofs.Ytenjjgghoacboaa

/-! ## StoreQ -/
/-
  WHAT A REQUEST THAT IS TAKEN MAKES OF A STORE's BLOCK. No condition.
-/
namespace Go.Proofs.Ytenjjgghoacboaa
open Go.RowKit

theorem RepAt.nobool {w : World} {R : Nat} {c n : Int} {d : ByteArray} {v : Value} (h : RepAt w R c n d v) (hv : ∀ x, v ≠ .bool x) : NoBool w R := by
  intro o x hx
  have h' : w.heap[R]? = some (.cells #[.int .i64 c, .int .i64 n, .string d, v] 48 (0, 0)) := h
  simp only [World.cell?, h'] at hx
  match o, hx with
  | 0, hx => simp at hx
  | 1, hx => simp at hx
  | 2, hx => simp at hx
  | 3, hx => simp at hx; exact hv x hx
  | o + 4, hx => simp at hx
theorem stored_besides (w : World) (R : Nat) (c n : Int) (d : ByteArray) (v : Value) : Besides R w (stored w R c n d v) :=
  (((Besides.setCell R 0 _ _).trans (Besides.setCell R 1 _ _)).trans (Besides.setCell R 2 _ _)).trans (Besides.setCell R 3 _ _)
theorem ReqB.besides {w w' : World} {R b : Nat} {cl sq kd id mt : Int} {dt : ByteArray} (h : ReqB w b cl sq kd id mt dt) (hb : Besides R w w') (hne : b ≠ R) : ReqB w' b cl sq kd id mt dt := by
  obtain ⟨e, h⟩ := h
  exact ⟨e, (hb.block b (lt_of_block h) hne).trans h⟩
theorem RepAt.besides {w w' : World} {R b : Nat} {c n : Int} {d : ByteArray} {v : Value} (h : RepAt w b c n d v) (hb : Besides R w w') (hne : b ≠ R) : RepAt w' b c n d v := (hb.block b h.lt hne).trans h

theorem Blk.drew {w : World} {b : Nat} {t : TypeId} {n : Nat} {f : Nat → Value} (h : Blk w b t n f) : Blk w.drew b t n f := h
theorem Besides.drew {b : Nat} {w w' : World} (h : Besides b w w') : Besides b w w'.drew := ⟨h.os, h.tape, h.output, h.size, h.block⟩
/-- The cells behind a request that is taken. -/
def putF (f : Nat → Value) (i o : Nat) (v : Value) (n sq cd vr : Int) (d : ByteArray) (l : Value) : Nat → Value :=
  updF (updF (updF (updF (updF (updF (updF (updF f (26 + i) v) 1 (.int .i64 n)) o (.int .i64 sq)) (o + 1) (.int .i64 cd)) (o + 2) (.int .i64 vr)) (o + 3) (.string d)) (o + 4) l) (o + 5) (.int .i64 n)
theorem tell_put {w : World} {f : Nat → Value} {s : StoV} (ht : Tell layP w f s) {c i : Nat} (hc : c < 4) (hi : i < 32) {v : Value} {L' : List VerV} (hv : Vers w w.heap.size v L') (sq cd vr : Int) (d : ByteArray) {l : Value} (hl : Nil0 l) :
    Tell layP w (putF f i (2 + c * 6) v (s.places + 1) sq cd vr d l) { s with places := s.places + 1, cl := updF s.cl c ⟨sq, cd, vr, d, s.places + 1⟩, res := updF s.res i L' } := by
  have hne : ∀ x, v ≠ .bool x := by obtain ⟨_, _, rfl, _⟩ := hv; intro x h; cases h
  have hnl : ∀ x, l ≠ .bool x := by obtain ⟨_, _, rfl, _⟩ := hl; intro x h; cases h
  have at_ : ∀ k, putF f i (2 + c * 6) v (s.places + 1) sq cd vr d l k = if k = 2 + c * 6 + 5 then .int .i64 (s.places + 1) else if k = 2 + c * 6 + 4 then l else if k = 2 + c * 6 + 3 then .string d else if k = 2 + c * 6 + 2 then .int .i64 vr else if k = 2 + c * 6 + 1 then .int .i64 cd else if k = 2 + c * 6 then .int .i64 sq else if k = 1 then .int .i64 (s.places + 1) else if k = 26 + i then v else f k := fun k => rfl
  refine ⟨fun k hk x => ?_, ?_, ?_, fun c' hc' => ?_, fun i' hi' => ?_⟩
  · rw [at_]
    repeat' split
    all_goals first | exact hne x | exact hnl x | exact ht.1 k hk x | (intro h; cases h)
  · rw [at_, if_neg (by omega), if_neg (by omega), if_neg (by omega), if_neg (by omega), if_neg (by omega), if_neg (by omega), if_neg (by omega), if_neg (by omega)]
    exact ht.2.1
  · rw [at_, if_neg (by omega), if_neg (by omega), if_neg (by omega), if_neg (by omega), if_neg (by omega), if_neg (by omega), if_pos rfl]
  · show putF _ _ _ _ _ _ _ _ _ _ (2 + c' * 6) = _ ∧ putF _ _ _ _ _ _ _ _ _ _ (2 + c' * 6 + 5) = _ ∧ putF _ _ _ _ _ _ _ _ _ _ (2 + c' * 6 + 1) = _ ∧ putF _ _ _ _ _ _ _ _ _ _ (2 + c' * 6 + 2) = _ ∧ putF _ _ _ _ _ _ _ _ _ _ (2 + c' * 6 + 3) = _ ∧ Nil0 (putF _ _ _ _ _ _ _ _ _ _ (2 + c' * 6 + 4))
    dsimp only
    by_cases e : c' = c
    · subst e
      rw [show (updF s.cl c' ⟨sq, cd, vr, d, s.places + 1⟩ c') = ⟨sq, cd, vr, d, s.places + 1⟩ from updF_same _ _ _]
      refine ⟨?_, ?_, ?_, ?_, ?_, ?_⟩
      · rw [at_, if_neg (by omega), if_neg (by omega), if_neg (by omega), if_neg (by omega), if_neg (by omega), if_pos rfl]
      · rw [at_, if_pos rfl]
      · rw [at_, if_neg (by omega), if_neg (by omega), if_neg (by omega), if_neg (by omega), if_pos rfl]
      · rw [at_, if_neg (by omega), if_neg (by omega), if_neg (by omega), if_pos rfl]
      · rw [at_, if_neg (by omega), if_neg (by omega), if_pos rfl]
      · rw [at_, if_neg (by omega), if_pos rfl]; exact hl
    · have far : ∀ j, j < 6 → putF f i (2 + c * 6) v (s.places + 1) sq cd vr d l (2 + c' * 6 + j) = f (2 + c' * 6 + j) := fun j hj => by
        rw [at_, if_neg (by omega), if_neg (by omega), if_neg (by omega), if_neg (by omega), if_neg (by omega), if_neg (by omega), if_neg (by omega), if_neg (by omega)]
      rw [show (updF s.cl c ⟨sq, cd, vr, d, s.places + 1⟩ c') = s.cl c' from updF_other _ _ _ _ e]
      have h := ht.2.2.2.1 c' hc'
      exact ⟨(far 0 (by omega)).trans h.1, (far 5 (by omega)).trans h.2.1, (far 1 (by omega)).trans h.2.2.1, (far 2 (by omega)).trans h.2.2.2.1, (far 3 (by omega)).trans h.2.2.2.2.1, (far 4 (by omega)) ▸ h.2.2.2.2.2⟩
  · show Vers w w.heap.size (putF _ _ _ _ _ _ _ _ _ _ (26 + i')) (updF s.res i L' i')
    by_cases e : i' = i
    · subst e
      rw [updF_same, at_, if_neg (by omega), if_neg (by omega), if_neg (by omega), if_neg (by omega), if_neg (by omega), if_neg (by omega), if_neg (by omega), if_pos rfl]
      exact hv
    · rw [updF_other _ _ _ _ e, at_, if_neg (by omega), if_neg (by omega), if_neg (by omega), if_neg (by omega), if_neg (by omega), if_neg (by omega), if_neg (by omega), if_neg (by omega)]
      exact ht.2.2.2.2 i' hi'

theorem Besides.stored {b T : Nat} {w u : World} (h : Besides b w u) (hT : w.heap.size ≤ T) (c n : Int) (d : ByteArray) (v : Value) : Besides b w (stored u T c n d v) := by
  have k := stored_besides u T c n d v
  exact ⟨k.os.trans h.os, k.tape.trans h.tape, k.output.trans h.output, Nat.le_trans h.size k.size, fun i hi hn => (k.block i (Nat.lt_of_lt_of_le hi h.size) (by omega)).trans (h.block i hi hn)⟩

end Go.Proofs.Ytenjjgghoacboaa

/-! ## StoreP -/
/-
  THE PROGRAM's STORE: Put where the request may be and writes.
-/
namespace Go.Proofs.Ytenjjgghoacboaa
open Go.RowKit

theorem undrew {w w' : World} (h : Below w.drew.heap.size w.drew w') : Below w.heap.size w w' := ⟨h.os, h.tape, h.output, h.size, h.block⟩

set_option maxRecDepth 100000 in
set_option maxHeartbeats 2000000 in
theorem sput_old (b c : Nat) (s : StoV) (sq kd id mt : Int) (dt : ByteArray) (w : World) (hc : c < 4) (h : Sto layP w b s)
    (HM : Hid (∀ u, Calls Try.prog 59 #[.agg #[.int .i64 c, .int .i64 sq, .int .i64 kd, .int .i64 id, .int .i64 mt, .string dt]] u fun e w' => e = .returned (.bool true) ∧ Below u.heap.size u w'))
    (HW : Hid (∀ u, Calls Try.prog 60 #[.agg #[.int .i64 c, .int .i64 sq, .int .i64 kd, .int .i64 id, .int .i64 mt, .string dt]] u fun e w' => e = .returned (.bool true) ∧ Below u.heap.size u w'))
    (HN : Hid (∀ u, Calls Try.prog 61 #[.agg #[.int .i64 c, .int .i64 sq, .int .i64 kd, .int .i64 id, .int .i64 mt, .string dt], .int .i64 (s.cl c).seq] u fun e w' => e = .returned (.bool false) ∧ Below u.heap.size u w')) :
    Calls Try.prog 63 #[.pointer (some ⟨b, 0, none⟩), .agg #[.int .i64 c, .int .i64 sq, .int .i64 kd, .int .i64 id, .int .i64 mt, .string dt]] w (Refused 9 w) := by
  have i0 : (0 : Int) ≤ (c : Int) := by omega
  have i1 : (c : Int) < 4 := by omega
  obtain ⟨v, hv, c1, c2, c3, c4, c5, c6⟩ := sto_client h c hc
  have hbl := h.lt
  have HS := Lib.hid c1
  clear h hv c1 c2 c3 c4 c5 c6
  generalize (s.cl c).seq = ls at HN HS
  go_enter Try.func63, Try.ntmps63
  go_wp2_with fail
  refine (HM.out _).mono ?_
  rintro e w1 ⟨rfl, B1⟩
  have C1 : Hid (Below w.heap.size w w1) := (((Below.refl _ w).alloc (Nat.le_refl _) _).alloc (by simp) _).trans (B1.mono (by simp; omega))
  have R1 : Hid (RepAt w1 (w.heap.size + 1) 0 0 ⟨#[]⟩ (.slice none 0 0)) := RepAt.keep (RepAt.new1 w _ 0 0 ⟨#[]⟩ (.slice none 0 0)) B1 (by simp)
  have D1 : Hid (ReqB w1 w.heap.size c sq kd id mt dt) := ((ReqB.fresh w c sq kd id mt dt 34).keep ((Below.refl (w.heap.size + 1) _).alloc (by simp) _) (by omega)).keep B1 (by simp; omega)
  clear B1
  obtain ⟨c0, c1, c2, c3, c4, c5⟩ := D1.out.cells
  go_wp2_with fail
  refine (HW.out _).mono ?_
  rintro e w2 ⟨rfl, B2⟩
  have C2 : Hid (Below w.heap.size w w2) := C1.out.trans (B2.mono C1.out.size)
  have R2 := Lib.hid (R1.out.keep B2 R1.out.lt)
  have D2 := Lib.hid (D1.out.keep B2 D1.out.lt)
  have s2 : w2.cell? ⟨b, 2 + c * 6, none⟩ = some (.int .i64 ls) := (C2.out.cell (p := ⟨b, 2 + c * 6, none⟩) hbl).trans HS.out
  clear B2 R1 D1 C1 c0 c1 c2 c3 c4 c5
  obtain ⟨c0, c1, c2, c3, c4, c5⟩ := D2.out.cells
  have HK : Hid (∀ u, Below w2.heap.size w2 u → u.cell? ⟨b, 2 + c * 6, none⟩ = some (.int .i64 ls) ∧ Hid (Below w.heap.size w u) ∧ Hid (RepAt u (w.heap.size + 1) 0 0 ⟨#[]⟩ (.slice none 0 0)) ∧
      u.cell? ⟨w.heap.size, 0, none⟩ = some (.int .i64 c) ∧ u.cell? ⟨w.heap.size, 1, none⟩ = some (.int .i64 sq) ∧ u.cell? ⟨w.heap.size, 2, none⟩ = some (.int .i64 kd) ∧ u.cell? ⟨w.heap.size, 3, none⟩ = some (.int .i64 id) ∧ u.cell? ⟨w.heap.size, 4, none⟩ = some (.int .i64 mt) ∧ u.cell? ⟨w.heap.size, 5, none⟩ = some (.string dt)) :=
    fun u hu => ⟨(hu.cell (p := ⟨b, 2 + c * 6, none⟩) (Nat.lt_of_lt_of_le hbl C2.out.size)).trans s2, C2.out.trans (hu.mono C2.out.size), R2.out.keep hu R2.out.lt, (D2.out.keep hu D2.out.lt).cells⟩
  go_wp2
  go_region
  go_wp2
  go_region_held3 (fun u => u.cell? ⟨b, 2 + c * 6, none⟩ = some (.int .i64 ls) ∧ u.cell? ⟨w.heap.size, 0, none⟩ = some (.int .i64 c) ∧ u.cell? ⟨w.heap.size, 1, none⟩ = some (.int .i64 sq) ∧ u.cell? ⟨w.heap.size, 2, none⟩ = some (.int .i64 kd) ∧ u.cell? ⟨w.heap.size, 3, none⟩ = some (.int .i64 id) ∧ u.cell? ⟨w.heap.size, 4, none⟩ = some (.int .i64 mt) ∧ u.cell? ⟨w.heap.size, 5, none⟩ = some (.string dt)) (first | assumption | go_keep) (first | (go_at_call 61; refine (HN.out _).mono ?_; rintro e w3 ⟨rfl, B3⟩; obtain ⟨s3, C3, R3, d0, d1, d2, d3, d4, d5⟩ := HK.out _ (undrew (undrew B3))))
  rename_i hS
  clear hS
  have HE := Lib.hid (rep_stored (c' := 0) (n' := 0) (d' := ⟨#[]⟩) R3.out (.slice none 0 0)).cells.1
  have hlt := R3.out.lt
  obtain ⟨⟨x0, x1, x2, x3⟩, ⟨z0, z1, z2, z3⟩⟩ := R3.out.cells
  clear s3 d0 d1 d2 d3 d4 d5
  go_wp2
  obtain ⟨e0, e1, e2, e3⟩ := HE.out
  unfold stored at e0 e1 e2 e3
  refine bodyPost_ret (v := .tuple #[.agg #[.int .i64 0, .int .i64 0, .string ⟨#[]⟩, .slice none 0 0], .int .i64 9]) (by simp [results, Try.results63, go_sem, e0, e1, e2, e3]) rfl ⟨rfl, ?_⟩
  exact stored_below C3.out (Nat.le_succ _) _ _ _ _

/-- What is told of a request that is taken. -/
def PutTold (y : Lay) (b : Nat) (s' : StoV) (cd vr : Int) (d : ByteArray) (w : World) (e : Ending) (w' : World) : Prop :=
  ∃ ao cap, e = .returned (.tuple #[.agg #[.int .i64 cd, .int .i64 vr, .string d, .slice ao 0 cap], .int .i64 0]) ∧ Nil0 (.slice ao 0 cap) ∧ Besides b w w' ∧ Sto y w' b s'

/-- Behind the resource's own Do. -/
def CutP (w : World) (c sq kd i mt : Int) (dt : ByteArray) (L' : List VerV) (n' : Nat) (cd vr : Int) (d : ByteArray) (s8 s9 : Value) (wr : World) : Prop :=
  ∃ av ac ao cap R, s8 = .slice av n' ac ∧ s9 = .pointer (some ⟨R, 0, none⟩) ∧ w.heap.size + 2 ≤ R ∧ RepAt wr R cd vr d (.slice ao 0 cap) ∧ Nil0 (.slice ao 0 cap) ∧ Vers wr wr.heap.size (.slice av n' ac) L' ∧ RepAt wr (w.heap.size + 1) 0 0 ⟨#[]⟩ (.slice none 0 0) ∧
    ReqB wr w.heap.size c sq kd i mt dt ∧ Below w.heap.size w wr

theorem cutp_new {w w5 : World} {c sq kd i mt : Int} {dt : ByteArray} {L' : List VerV} {n' : Nat} {cd vr : Int} {d : ByteArray} {av ao : Option Addr} {ac cap : Nat} (C5 : Below w.heap.size w w5) (R5 : RepAt w5 (w.heap.size + 1) 0 0 ⟨#[]⟩ (.slice none 0 0)) (D5 : ReqB w5 w.heap.size c sq kd i mt dt)
    (V5 : Vers w5 w5.heap.size (.slice av n' ac) L') (I5 : Nil0 (.slice ao 0 cap)) (z5 : w.heap.size + 2 ≤ w5.heap.size) :
    CutP w c sq kd i mt dt L' n' cd vr d (.slice av n' ac) (.pointer (some ⟨w5.heap.size, 0, none⟩)) (w5.alloc (.cells #[.int .i64 cd, .int .i64 vr, .string d, .slice ao 0 cap] 48)) := by
  have hb : Below w5.heap.size w5 (w5.alloc (.cells #[.int .i64 cd, .int .i64 vr, .string d, .slice ao 0 cap] 48)) := (Below.refl _ _).alloc (Nat.le_refl _) _
  exact ⟨av, ac, ao, cap, w5.heap.size, rfl, rfl, z5, RepAt.new w5 cd vr d _, I5, V5.on hb, R5.keep hb R5.lt, D5.keep hb D5.lt, C5.trans (hb.mono C5.size)⟩
theorem cutp_old {w w5 : World} {R : Nat} {c sq kd i mt : Int} {dt : ByteArray} {L' : List VerV} {n' : Nat} {cd vr : Int} {d : ByteArray} {av ao : Option Addr} {ac cap : Nat} (X5 : RepAt w5 R 0 0 ⟨#[]⟩ (.slice none 0 0)) (C5 : Below w.heap.size w w5) (R5 : RepAt w5 (w.heap.size + 1) 0 0 ⟨#[]⟩ (.slice none 0 0)) (D5 : ReqB w5 w.heap.size c sq kd i mt dt)
    (V5 : Vers w5 w5.heap.size (.slice av n' ac) L') (I5 : Nil0 (.slice ao 0 cap)) (hR : w.heap.size + 2 ≤ R) :
    CutP w c sq kd i mt dt L' n' cd vr d (.slice av n' ac) (.pointer (some ⟨R, 0, none⟩)) (stored w5 R cd vr d (.slice ao 0 cap)) := by
  have hb := stored_besides w5 R cd vr d (.slice ao 0 cap)
  exact ⟨av, ac, ao, cap, R, rfl, rfl, hR, rep_stored X5 _, I5, (V5.besides (Nat.le_refl _) (X5.nobool (by intro x h; cases h)) hb).mono hb.size, R5.besides hb (by omega), D5.besides hb (by omega), stored_below C5 (by omega) _ _ _ _⟩

set_option maxRecDepth 100000 in
set_option maxHeartbeats 4000000 in
theorem sput_done (b c i : Nat) (s : StoV) (sq kd mt : Int) (dt : ByteArray) (L' : List VerV) (n' : Nat) (cd vr : Int) (d : ByteArray) (w : World) (hc : c < 4) (hi : i < 32) (h : Sto layP w b s)
    (hpl : 0 ≤ s.places) (hpl2 : s.places ≤ 1000000)
    (HM : Hid (∀ u, Calls Try.prog 59 #[.agg #[.int .i64 c, .int .i64 sq, .int .i64 kd, .int .i64 i, .int .i64 mt, .string dt]] u fun e w' => e = .returned (.bool true) ∧ Below u.heap.size u w'))
    (HW : Hid (∀ u, Calls Try.prog 60 #[.agg #[.int .i64 c, .int .i64 sq, .int .i64 kd, .int .i64 i, .int .i64 mt, .string dt]] u fun e w' => e = .returned (.bool true) ∧ Below u.heap.size u w'))
    (HN : Hid (∀ u, Calls Try.prog 61 #[.agg #[.int .i64 c, .int .i64 sq, .int .i64 kd, .int .i64 i, .int .i64 mt, .string dt], .int .i64 (s.cl c).seq] u fun e w' => e = .returned (.bool true) ∧ Below u.heap.size u w'))
    (HY : Hid (∀ u, Calls Try.prog 62 #[.agg #[.int .i64 c, .int .i64 sq, .int .i64 kd, .int .i64 i, .int .i64 mt, .string dt]] u fun e w' => e = .returned (.int .i64 i) ∧ Below u.heap.size u w'))
    (HD : Hid (∀ u v, Vers u u.heap.size v (s.res i) → Calls Try.prog 98 #[v, .agg #[.int .i64 c, .int .i64 sq, .int .i64 kd, .int .i64 i, .int .i64 mt, .string dt], .int .i64 s.quota] u (DoesN L' n' [] 0 cd vr d u))) :
    Calls Try.prog 63 #[.pointer (some ⟨b, 0, none⟩), .agg #[.int .i64 c, .int .i64 sq, .int .i64 kd, .int .i64 i, .int .i64 mt, .string dt]] w
      (PutTold layP b { s with places := s.places + 1, cl := updF s.cl c ⟨sq, cd, vr, d, s.places + 1⟩, res := updF s.res i L' } cd vr d w) := by
  have i0 : (0 : Int) ≤ (c : Int) := by omega
  have i1 : (c : Int) < 4 := by omega
  have j0 : (0 : Int) ≤ (i : Int) := by omega
  have j1 : (i : Int) < 32 := by omega
  have H := Lib.hid h
  have hbl := h.lt
  have HL : Hid (∀ u, Below w.heap.size w u → u.cell? ⟨b, 2 + c * 6, none⟩ = some (.int .i64 (s.cl c).seq)) := fun u hu => by
    obtain ⟨v, hv, c1, _⟩ := sto_client (h.on hu) c hc
    exact c1
  have HQ : Hid (∀ u, Below w.heap.size w u → u.cell? ⟨b, 0, none⟩ = some (.int .i64 s.quota)) := fun u hu => by
    obtain ⟨f, hk, ht⟩ := h.on hu
    exact ht.2.1 ▸ hk.cell 0 (by decide)
  obtain ⟨ar, cr, hcr, hvr⟩ := sto_res h i hi
  have HO : Hid (∀ u, Below w.heap.size w u → Calls Try.prog 99 #[.pointer (some ⟨b, 26, none⟩), .int .i64 i] u fun e w' => e = .returned (.slice ar (s.res i).length cr) ∧ u = w') :=
    fun u hu => of_r b i ar _ cr u hi ((hu.cell (p := ⟨b, 26 + i, none⟩) hbl).trans hcr)
  have HD2 : Hid (∀ u, Below w.heap.size w u → Calls Try.prog 98 #[.slice ar (s.res i).length cr, .agg #[.int .i64 c, .int .i64 sq, .int .i64 kd, .int .i64 i, .int .i64 mt, .string dt], .int .i64 s.quota] u (DoesN L' n' [] 0 cd vr d u)) :=
    fun u hu => HD.out u _ (hvr.on hu)
  clear h hcr hvr HD
  generalize (s.res i).length = nr at HO HD2
  generalize (s.cl c).seq = ls at HN HL
  go_enter Try.func63, Try.ntmps63
  go_wp2_with fail
  refine (HM.out _).mono ?_
  rintro e w1 ⟨rfl, B1⟩
  have C1 : Hid (Below w.heap.size w w1) := (((Below.refl _ w).alloc (Nat.le_refl _) _).alloc (by simp) _).trans (B1.mono (by simp; omega))
  have R1 : Hid (RepAt w1 (w.heap.size + 1) 0 0 ⟨#[]⟩ (.slice none 0 0)) := RepAt.keep (RepAt.new1 w _ 0 0 ⟨#[]⟩ (.slice none 0 0)) B1 (by simp)
  have D1 : Hid (ReqB w1 w.heap.size c sq kd i mt dt) := ((ReqB.fresh w c sq kd i mt dt 34).keep ((Below.refl (w.heap.size + 1) _).alloc (by simp) _) (by omega)).keep B1 (by simp; omega)
  clear B1
  obtain ⟨c0, c1, c2, c3, c4, c5⟩ := D1.out.cells
  go_wp2_with fail
  refine (HW.out _).mono ?_
  rintro e w2 ⟨rfl, B2⟩
  have C2 : Hid (Below w.heap.size w w2) := C1.out.trans (B2.mono C1.out.size)
  have R2 := Lib.hid (R1.out.keep B2 R1.out.lt)
  have D2 := Lib.hid (D1.out.keep B2 D1.out.lt)
  have s2 := HL.out w2 C2.out
  clear B2 R1 D1 C1 c0 c1 c2 c3 c4 c5
  obtain ⟨c0, c1, c2, c3, c4, c5⟩ := D2.out.cells
  have HK : Hid (∀ u, Below w2.heap.size w2 u → u.cell? ⟨b, 2 + c * 6, none⟩ = some (.int .i64 ls) ∧ Hid (Below w.heap.size w u) ∧ Hid (RepAt u (w.heap.size + 1) 0 0 ⟨#[]⟩ (.slice none 0 0)) ∧ Hid (ReqB u w.heap.size c sq kd i mt dt) ∧
      u.cell? ⟨w.heap.size, 0, none⟩ = some (.int .i64 c) ∧ u.cell? ⟨w.heap.size, 1, none⟩ = some (.int .i64 sq) ∧ u.cell? ⟨w.heap.size, 2, none⟩ = some (.int .i64 kd) ∧ u.cell? ⟨w.heap.size, 3, none⟩ = some (.int .i64 i) ∧ u.cell? ⟨w.heap.size, 4, none⟩ = some (.int .i64 mt) ∧ u.cell? ⟨w.heap.size, 5, none⟩ = some (.string dt)) :=
    fun u hu => ⟨HL.out u (C2.out.trans (hu.mono C2.out.size)), C2.out.trans (hu.mono C2.out.size), R2.out.keep hu R2.out.lt, D2.out.keep hu D2.out.lt, (D2.out.keep hu D2.out.lt).cells⟩
  go_wp2
  go_region
  go_wp2
  go_region_held3 (fun u => u.cell? ⟨b, 2 + c * 6, none⟩ = some (.int .i64 ls) ∧ u.cell? ⟨w.heap.size, 0, none⟩ = some (.int .i64 c) ∧ u.cell? ⟨w.heap.size, 1, none⟩ = some (.int .i64 sq) ∧ u.cell? ⟨w.heap.size, 2, none⟩ = some (.int .i64 kd) ∧ u.cell? ⟨w.heap.size, 3, none⟩ = some (.int .i64 i) ∧ u.cell? ⟨w.heap.size, 4, none⟩ = some (.int .i64 mt) ∧ u.cell? ⟨w.heap.size, 5, none⟩ = some (.string dt)) (first | assumption | go_keep) (first | (go_at_call 61; refine (HN.out _).mono ?_; rintro e w3 ⟨rfl, B3⟩; obtain ⟨s3, C3, R3, D3, d0, d1, d2, d3, d4, d5⟩ := HK.out _ (undrew (undrew B3))))
  rename_i hS
  clear hS s3 s2 HK R2 D2 C2 c0 c1 c2 c3 c4 c5
  go_wp2_with fail
  refine (HY.out _).mono ?_
  rintro e w4 ⟨rfl, B4⟩
  have C4 : Hid (Below w.heap.size w w4) := C3.out.trans (B4.mono C3.out.size)
  have R4 := Lib.hid (R3.out.keep B4 R3.out.lt)
  have D4 := Lib.hid (D3.out.keep B4 D3.out.lt)
  have q4 := HQ.out w4 C4.out
  clear B4 d0 d1 d2 d3 d4 d5 R3 D3 C3
  obtain ⟨c0, c1, c2, c3, c4, c5⟩ := D4.out.cells
  have HZ : Hid (∀ u, Below w4.heap.size w4 u → Below w.heap.size w u) := fun u hu => C4.out.trans (hu.mono C4.out.size)
  have HK4 : Hid (∀ u, Below w4.heap.size w4 u → u.cell? ⟨b, 0, none⟩ = some (.int .i64 s.quota) ∧ Hid (Below w.heap.size w u) ∧ Hid (RepAt u (w.heap.size + 1) 0 0 ⟨#[]⟩ (.slice none 0 0)) ∧ Hid (ReqB u w.heap.size c sq kd i mt dt) ∧ w.heap.size + 2 ≤ u.heap.size ∧
      u.cell? ⟨w.heap.size, 0, none⟩ = some (.int .i64 c) ∧ u.cell? ⟨w.heap.size, 1, none⟩ = some (.int .i64 sq) ∧ u.cell? ⟨w.heap.size, 2, none⟩ = some (.int .i64 kd) ∧ u.cell? ⟨w.heap.size, 3, none⟩ = some (.int .i64 i) ∧ u.cell? ⟨w.heap.size, 4, none⟩ = some (.int .i64 mt) ∧ u.cell? ⟨w.heap.size, 5, none⟩ = some (.string dt)) :=
    fun u hu => ⟨HQ.out u (C4.out.trans (hu.mono C4.out.size)), C4.out.trans (hu.mono C4.out.size), R4.out.keep hu R4.out.lt, D4.out.keep hu D4.out.lt, by have := hu.size; have := R4.out.lt; omega, (D4.out.keep hu D4.out.lt).cells⟩
  have HK5 : Hid (∀ u, Below (w4.alloc (.cells #[.int .i64 0, .int .i64 0, .string ⟨#[]⟩, .slice none 0 0] 48)).drew.heap.size (w4.alloc (.cells #[.int .i64 0, .int .i64 0, .string ⟨#[]⟩, .slice none 0 0] 48)).drew u → RepAt u w4.heap.size 0 0 ⟨#[]⟩ (.slice none 0 0) ∧ u.cell? ⟨b, 0, none⟩ = some (.int .i64 s.quota) ∧ Hid (Below w.heap.size w u) ∧ Hid (RepAt u (w.heap.size + 1) 0 0 ⟨#[]⟩ (.slice none 0 0)) ∧ Hid (ReqB u w.heap.size c sq kd i mt dt) ∧ w.heap.size + 2 ≤ u.heap.size ∧
      u.cell? ⟨w.heap.size, 0, none⟩ = some (.int .i64 c) ∧ u.cell? ⟨w.heap.size, 1, none⟩ = some (.int .i64 sq) ∧ u.cell? ⟨w.heap.size, 2, none⟩ = some (.int .i64 kd) ∧ u.cell? ⟨w.heap.size, 3, none⟩ = some (.int .i64 i) ∧ u.cell? ⟨w.heap.size, 4, none⟩ = some (.int .i64 mt) ∧ u.cell? ⟨w.heap.size, 5, none⟩ = some (.string dt)) :=
    fun u hu => ⟨RepAt.keep (RepAt.new w4 0 0 ⟨#[]⟩ (.slice none 0 0)) (undrew hu) (by simp), HK4.out u (((Below.refl _ w4).alloc (Nat.le_refl _) _).trans ((undrew hu).mono (by simp)))⟩
  have n0 := World.new_ne w4 _ c0
  have n1 := World.new_ne w4 _ c1
  have n2 := World.new_ne w4 _ c2
  have n3 := World.new_ne w4 _ c3
  have n4 := World.new_ne w4 _ c4
  have n5 := World.new_ne w4 _ c5
  have n6 := World.new_ne w4 _ q4
  go_upto_region 7 with fail
  go_cut [8, 9] (fun s8 s9 wr => CutP w c sq kd i mt dt L' n' cd vr d s8 s9 wr)
  case first =>
    go_region_held3 (fun u => u.cell? ⟨b, 0, none⟩ = some (.int .i64 s.quota) ∧ u.cell? ⟨w.heap.size, 0, none⟩ = some (.int .i64 c) ∧ u.cell? ⟨w.heap.size, 1, none⟩ = some (.int .i64 sq) ∧ u.cell? ⟨w.heap.size, 2, none⟩ = some (.int .i64 kd) ∧ u.cell? ⟨w.heap.size, 3, none⟩ = some (.int .i64 i) ∧ u.cell? ⟨w.heap.size, 4, none⟩ = some (.int .i64 mt) ∧ u.cell? ⟨w.heap.size, 5, none⟩ = some (.string dt)) (first | assumption | go_keep)
      (first
        | (go_at_call 99; refine (HO.out _ (HZ.out _ (by go_grown))).mono ?_; rintro e w5 ⟨rfl, rfl⟩)
        | (go_at_call 98; (with_reducible refine (HD2.out w4.drew (HZ.out _ (by go_grown))).mono ?_); rintro e w5 ⟨av, ac, ao, cap, rfl, V5, I5, B5⟩; obtain ⟨q5, C5, R5, D5, z5, d0, d1, d2, d3, d4, d5⟩ := HK4.out _ (undrew B5); have HV := Lib.hid V5; have HI := Lib.hid (Nil0.of I5); have m0 := World.new_ne w5 _ d0; have m1 := World.new_ne w5 _ d1; have m2 := World.new_ne w5 _ d2; have m3 := World.new_ne w5 _ d3; have m4 := World.new_ne w5 _ d4; have m5 := World.new_ne w5 _ d5; have m6 := World.new_ne w5 _ q5; clear B5 V5 I5)
        | (go_at_call 98; (with_reducible refine (HD2.out (w4.alloc (.cells #[.int .i64 0, .int .i64 0, .string ⟨#[]⟩, .slice none 0 0] 48)).drew (HZ.out _ (by go_grown))).mono ?_); rintro e w5 ⟨av, ac, ao, cap, rfl, V5, I5, B5⟩; obtain ⟨x5, q5, C5, R5, D5, z5, d0, d1, d2, d3, d4, d5⟩ := HK5.out _ B5; have X5 := Lib.hid x5; have hlt5 := x5.lt; obtain ⟨⟨x0, x1, x2, x3⟩, ⟨y0, y1, y2, y3⟩⟩ := x5.cells; have HV := Lib.hid V5; have HI := Lib.hid (Nil0.of I5); clear B5 V5 I5 x5))
    all_goals
      rename_i hS
      clear hS
      go_wp2
      go_meet
    case rel => exact cutp_new C5.out R5.out D5.out HV.out HI.out z5
    case rel => exact cutp_old X5.out C5.out R5.out D5.out HV.out HI.out (by have := C4.out.size; have := R4.out.lt; omega)
    case rel => exact cutp_old X5.out C5.out R5.out D5.out HV.out HI.out (by have := C4.out.size; have := R4.out.lt; omega)
  case rest =>
    obtain ⟨av, ac, ao, cap, R, rfl, rfl, hR, x5, nil5, v5, r5, d5, b5⟩ := hcut
    obtain ⟨f, hk, ht⟩ := H.out.on b5
    have HN5 := Lib.hid nil5
    have HB5 := Lib.hid b5
    have HT := Lib.hid ht
    have HF := Lib.hid hk
    have HNB := Lib.hid (hk.nobool ht.1)
    have HV5 := Lib.hid v5
    have X5 := Lib.hid x5
    have D5 := Lib.hid d5
    have R5 := Lib.hid r5
    have bR : b ≠ R := by omega
    have Rb : R ≠ b := by omega
    have bQ : b ≠ w.heap.size := by omega
    have Qb : w.heap.size ≠ b := by omega
    have bT : b ≠ w.heap.size + 1 := by omega
    have Tb : w.heap.size + 1 ≠ b := by omega
    have k1 := hk.cell (26 + i) (by omega)
    have k2 := hk.free (26 + i)
    clear v5 x5 d5 r5 nil5 ht hk H n0 n1 n2 n3 n4 n5 n6 HZ HK4 HK5 HO HD2 HM HW HN HY HQ HL c0 c1 c2 c3 c4 c5 R4 D4 C4 q4 b5
    go_upto_region 9 with fail
    obtain ⟨w6, hw6⟩ : ∃ x, x = wc.setCell ⟨b, 26 + i, none⟩ (.slice av n' ac) := ⟨_, rfl⟩
    rw [← hw6]
    have F6 : Blk w6 b 116 58 (updF f (26 + i) (.slice av n' ac)) := hw6 ▸ HF.out.set (26 + i) _
    have B6 : Besides b wc w6 := hw6 ▸ Besides.setCell _ _ _ _
    have p6 := F6.cell 1 (by decide)
    rw [updF_other _ _ _ _ (by omega), HT.out.2.2.1] at p6
    have p6' := F6.free 1
    have HF6 := Lib.hid F6
    have HB6 := Lib.hid B6
    clear hw6 F6 B6 k1 k2 HF
    go_upto_region 10 with fail
    obtain ⟨w7, hw7⟩ : ∃ x, x = w6.setCell ⟨b, 1, none⟩ (.int .i64 (s.places + 1)) := ⟨_, rfl⟩
    rw [← hw7]
    have F7 : Blk w7 b 116 58 (updF (updF f (26 + i) (.slice av n' ac)) 1 (.int .i64 (s.places + 1))) := hw7 ▸ HF6.out.set 1 _
    have B7 : Besides b wc w7 := HB6.out.trans (hw7 ▸ Besides.setCell _ _ _ _)
    have p7 := F7.cell 1 (by decide)
    rw [updF_same] at p7
    have q0 := F7.cell (2 + c * 6) (by omega)
    have q1 := F7.cell (2 + c * 6 + 1) (by omega)
    have q2 := F7.cell (2 + c * 6 + 2) (by omega)
    have q3 := F7.cell (2 + c * 6 + 3) (by omega)
    have q4 := F7.cell (2 + c * 6 + 4) (by omega)
    have q5 := F7.cell (2 + c * 6 + 5) (by omega)
    have r0 := F7.free (2 + c * 6)
    have r1 := F7.free (2 + c * 6 + 1)
    have r2 := F7.free (2 + c * 6 + 2)
    have r3 := F7.free (2 + c * 6 + 3)
    have r4 := F7.free (2 + c * 6 + 4)
    have r5 := F7.free (2 + c * 6 + 5)
    have D7 := (D5.out.besides B7 Qb).cells
    obtain ⟨d0, d1, d2, d3, d4, d5⟩ := D7
    obtain ⟨⟨x0, x1, x2, x3⟩, _⟩ := (X5.out.besides B7 Rb).cells
    have HF7 := Lib.hid F7
    have HB7 := Lib.hid B7
    have h1o : 1 < 2 + c * 6 := by omega
    clear hw7 F7 B7 p6 p6' HF6 HB6 d0 d2 d3 d4 d5
    go_still_tail 10, (by kernel_rfl)
    go_upto_region 11 with fail
    obtain ⟨w9, hw9⟩ : ∃ x, x = ((((((w7.setCell ⟨b, 2 + c * 6, none⟩ (.int .i64 sq)).setCell ⟨b, 2 + c * 6 + 1, none⟩ (.int .i64 cd)).setCell ⟨b, 2 + c * 6 + 2, none⟩ (.int .i64 vr)).setCell ⟨b, 2 + c * 6 + 3, none⟩ (.string d)).setCell ⟨b, 2 + c * 6 + 4, none⟩ (.slice ao 0 cap)).setCell ⟨b, 2 + c * 6 + 5, none⟩ (.int .i64 (s.places + 1))).drew := ⟨_, rfl⟩
    rw [← hw9]
    have F9 : Blk w9 b 116 58 (putF f i (2 + c * 6) (.slice av n' ac) (s.places + 1) sq cd vr d (.slice ao 0 cap)) := by
      rw [hw9]
      exact Blk.drew ((((((HF7.out.set _ _).set _ _).set _ _).set _ _).set _ _).set _ _)
    have B9 : Besides b wc w9 := by
      refine HB7.out.trans ?_
      rw [hw9]
      exact Besides.drew ((((((Besides.setCell b (2 + c * 6) w7 (.int .i64 sq)).trans (Besides.setCell b (2 + c * 6 + 1) _ (.int .i64 cd))).trans (Besides.setCell b (2 + c * 6 + 2) _ (.int .i64 vr))).trans (Besides.setCell b (2 + c * 6 + 3) _ (.string d))).trans (Besides.setCell b (2 + c * 6 + 4) _ (.slice ao 0 cap))).trans (Besides.setCell b (2 + c * 6 + 5) _ (.int .i64 (s.places + 1))))
    have X9 := X5.out.besides B9 Rb
    have T9 := R5.out.besides B9 Tb
    have hvv : ∀ v L, Vers wc wc.heap.size v L → Vers w9 w9.heap.size v L := fun v L h => (h.besides (Nat.le_refl _) HNB.out B9).mono B9.size
    have S9 : Sto layP w9 b { s with places := s.places + 1, cl := updF s.cl c ⟨sq, cd, vr, d, s.places + 1⟩, res := updF s.res i L' } := ⟨_, F9, tell_put (HT.out.vers hvv) hc hi (hvv _ _ HV5.out) sq cd vr d HN5.out⟩
    have TB : NoBool w9 (w.heap.size + 1) := T9.nobool (by intro x h; cases h)
    have BB : Besides b w w9 := (Besides.of HB5.out).trans B9
    have HS9 := Lib.hid (S9.besides TB (stored_besides w9 (w.heap.size + 1) cd vr d (.slice ao 0 cap)) bT)
    have HBB := Lib.hid (BB.stored (Nat.le_succ _) cd vr d (.slice ao 0 cap))
    have HE := Lib.hid (rep_stored (c' := cd) (n' := vr) (d' := d) T9 (.slice ao 0 cap)).cells.1
    obtain ⟨⟨x0, x1, x2, x3⟩, _⟩ := X9.cells
    obtain ⟨⟨y0, y1, y2, y3⟩, ⟨z0, z1, z2, z3⟩⟩ := T9.cells
    have TR : w.heap.size + 1 ≠ R := by omega
    have hRT : R ≠ w.heap.size + 1 := by omega
    clear hw9 F9 B9 X9 T9 hvv S9 TB BB q0 q1 q2 q3 q4 q5 r0 r1 r2 r3 r4 r5 HF7 HB7 p7 d1
    go_wp2

    obtain ⟨e0, e1, e2, e3⟩ := HE.out
    unfold stored at e0 e1 e2 e3
    refine bodyPost_ret (v := .tuple #[.agg #[.int .i64 cd, .int .i64 vr, .string d, .slice ao 0 cap], .int .i64 0]) (by simp [results, Try.results63, go_sem, e0, e1, e2, e3]) rfl ⟨ao, cap, rfl, HN5.out, HBB.out, HS9.out⟩
end Go.Proofs.Ytenjjgghoacboaa

/-! ## StoreK -/
/-
  THE PROGRAM's STORE: Ask.
-/
namespace Go.Proofs.Ytenjjgghoacboaa
open Go.RowKit

theorem undrewK {w w' : World} (h : Below w.drew.heap.size w.drew w') : Below w.heap.size w w' := ⟨h.os, h.tape, h.output, h.size, h.block⟩

/-- What is told of a question. -/
def AskTold (l : List Int) (m : Nat) (c r : Int) (d : ByteArray) (w : World) (e : Ending) (w' : World) : Prop :=
  ∃ ao cap, e = .returned (.tuple #[.agg #[.int .i64 c, .int .i64 r, .string d, .slice ao m cap], .int .i64 0]) ∧ Ints w' w'.heap.size (.slice ao m cap) l ∧ Below w.heap.size w w'

def TellsM (l : List Int) (m : Nat) (c r : Int) (d : ByteArray) (w : World) (e : Ending) (w' : World) : Prop :=
  ∃ ao cap, e = .returned (.agg #[.int .i64 c, .int .i64 r, .string d, .slice ao m cap]) ∧ Ints w' w'.heap.size (.slice ao m cap) l ∧ (∀ a, ao = some a → w.heap.size ≤ a.block) ∧ Below w.heap.size w w'
theorem Tells.m {l : List Int} {m : Nat} {c r : Int} {d : ByteArray} {w : World} {e : Ending} {w' : World} (h : Tells l c r d w e w') (hm : l.length = m) : TellsM l m c r d w e w' := by
  subst hm
  exact h

theorem Ints.besides {w w' : World} {R B : Nat} {v : Value} {l : List Int} (h : Ints w B v l) (hB : B ≤ w.heap.size) (hb : Besides R w w') (hne : ∀ ao n cap, v = .slice ao n cap → ∀ a, ao = some a → a.block ≠ R) : Ints w' B v l := by
  obtain ⟨ao, cap, rfl, h1, h2, h3, h4⟩ := h
  refine ⟨ao, cap, rfl, h1, h2, h3, fun hl => ?_⟩
  obtain ⟨c, off, rfl, hcB, hc⟩ := h4 hl
  exact ⟨c, off, rfl, hcB, fun j hj => (hb.cell (p := ⟨c, off + j, Option.none⟩) (show c < _ by omega) (show c ≠ R from hne _ _ _ rfl _ rfl)).trans (hc j hj)⟩

set_option maxRecDepth 100000 in
set_option maxHeartbeats 2000000 in
theorem sask_done (b i : Nat) (L : List VerV) (cl sq kd mt : Int) (dt : ByteArray) (l : List Int) (m : Nat) (cd vr : Int) (d : ByteArray) (w : World) (hi : i < 32) (hbl : b < w.heap.size) (hm : l.length = m)
    (ar : Option Addr) (nr cr : Nat) (hcr : w.cell? ⟨b, 26 + i, none⟩ = some (.slice ar nr cr)) (hvr : Vers w w.heap.size (.slice ar nr cr) L)
    (HM : Hid (∀ u, Calls Try.prog 59 #[.agg #[.int .i64 cl, .int .i64 sq, .int .i64 kd, .int .i64 i, .int .i64 mt, .string dt]] u fun e w' => e = .returned (.bool true) ∧ Below u.heap.size u w'))
    (HW : Hid (∀ u, Calls Try.prog 60 #[.agg #[.int .i64 cl, .int .i64 sq, .int .i64 kd, .int .i64 i, .int .i64 mt, .string dt]] u fun e w' => e = .returned (.bool false) ∧ Below u.heap.size u w'))
    (HY : Hid (∀ u, Calls Try.prog 62 #[.agg #[.int .i64 cl, .int .i64 sq, .int .i64 kd, .int .i64 i, .int .i64 mt, .string dt]] u fun e w' => e = .returned (.int .i64 i) ∧ Below u.heap.size u w'))
    (HD : Hid (∀ u v, Vers u u.heap.size v L → Calls Try.prog 105 #[v, .agg #[.int .i64 cl, .int .i64 sq, .int .i64 kd, .int .i64 i, .int .i64 mt, .string dt]] u (Tells l cd vr d u))) :
    Calls Try.prog 69 #[.pointer (some ⟨b, 0, none⟩), .agg #[.int .i64 cl, .int .i64 sq, .int .i64 kd, .int .i64 i, .int .i64 mt, .string dt]] w (AskTold l m cd vr d w) := by
  have j0 : (0 : Int) ≤ (i : Int) := by omega
  have j1 : (i : Int) < 32 := by omega
  have HO : Hid (∀ u, Below w.heap.size w u → Calls Try.prog 99 #[.pointer (some ⟨b, 26, none⟩), .int .i64 i] u fun e w' => e = .returned (.slice ar nr cr) ∧ u = w') :=
    fun u hu => of_r b i ar _ cr u hi ((hu.cell (p := ⟨b, 26 + i, none⟩) hbl).trans hcr)
  have HD2 : Hid (∀ u, Below w.heap.size w u → Calls Try.prog 105 #[.slice ar nr cr, .agg #[.int .i64 cl, .int .i64 sq, .int .i64 kd, .int .i64 i, .int .i64 mt, .string dt]] u (TellsM l m cd vr d u)) :=
    fun u hu => (HD.out u _ (hvr.on hu)).mono fun _ _ h => h.m hm
  clear hcr hvr HD hm
  go_enter Try.func69, Try.ntmps69
  go_wp2_with fail
  refine (HM.out _).mono ?_
  rintro e w1 ⟨rfl, B1⟩
  have C1 : Hid (Below w.heap.size w w1) := (((Below.refl _ w).alloc (Nat.le_refl _) _).alloc (by simp) _).trans (B1.mono (by simp; omega))
  have R1 : Hid (RepAt w1 (w.heap.size + 1) 0 0 ⟨#[]⟩ (.slice none 0 0)) := RepAt.keep (RepAt.new1 w _ 0 0 ⟨#[]⟩ (.slice none 0 0)) B1 (by simp)
  have D1 : Hid (ReqB w1 w.heap.size cl sq kd i mt dt) := ((ReqB.fresh w cl sq kd i mt dt 34).keep ((Below.refl (w.heap.size + 1) _).alloc (by simp) _) (by omega)).keep B1 (by simp; omega)
  clear B1
  obtain ⟨c0, c1, c2, c3, c4, c5⟩ := D1.out.cells
  go_wp2_with fail
  refine (HW.out _).mono ?_
  rintro e w2 ⟨rfl, B2⟩
  have C2 : Hid (Below w.heap.size w w2) := C1.out.trans (B2.mono C1.out.size)
  have R2 := Lib.hid (R1.out.keep B2 R1.out.lt)
  have D2 := Lib.hid (D1.out.keep B2 D1.out.lt)
  clear B2 R1 D1 C1 c0 c1 c2 c3 c4 c5
  obtain ⟨c0, c1, c2, c3, c4, c5⟩ := D2.out.cells
  have HK : Hid (∀ u, Below w2.heap.size w2 u → Hid (Below w.heap.size w u) ∧ Hid (RepAt u (w.heap.size + 1) 0 0 ⟨#[]⟩ (.slice none 0 0)) ∧ Hid (ReqB u w.heap.size cl sq kd i mt dt) ∧
      u.cell? ⟨w.heap.size, 0, none⟩ = some (.int .i64 cl) ∧ u.cell? ⟨w.heap.size, 1, none⟩ = some (.int .i64 sq) ∧ u.cell? ⟨w.heap.size, 2, none⟩ = some (.int .i64 kd) ∧ u.cell? ⟨w.heap.size, 3, none⟩ = some (.int .i64 i) ∧ u.cell? ⟨w.heap.size, 4, none⟩ = some (.int .i64 mt) ∧ u.cell? ⟨w.heap.size, 5, none⟩ = some (.string dt)) :=
    fun u hu => ⟨C2.out.trans (hu.mono C2.out.size), R2.out.keep hu R2.out.lt, D2.out.keep hu D2.out.lt, (D2.out.keep hu D2.out.lt).cells⟩
  go_wp2
  go_region_held3 (fun u => u.cell? ⟨w.heap.size, 0, none⟩ = some (.int .i64 cl) ∧ u.cell? ⟨w.heap.size, 1, none⟩ = some (.int .i64 sq) ∧ u.cell? ⟨w.heap.size, 2, none⟩ = some (.int .i64 kd) ∧ u.cell? ⟨w.heap.size, 3, none⟩ = some (.int .i64 i) ∧ u.cell? ⟨w.heap.size, 4, none⟩ = some (.int .i64 mt) ∧ u.cell? ⟨w.heap.size, 5, none⟩ = some (.string dt)) (first | assumption | go_keep)
    (first
      | (go_at_call 62; refine (HY.out _).mono ?_; rintro e w3 ⟨rfl, B3⟩; obtain ⟨C3, R3, D3, d0, d1, d2, d3, d4, d5⟩ := HK.out _ (undrewK B3))
      | (go_at_call 99; refine (HO.out _ C3.out).mono ?_; rintro e w4 ⟨rfl, rfl⟩)
      | (go_at_call 105; refine (HD2.out _ C3.out).mono ?_; rintro e w5 ⟨ao, cap, rfl, I5, L5, B5⟩; obtain ⟨d0, d1, d2, d3, d4, d5⟩ := (D3.out.keep B5 D3.out.lt).cells; have HB5 := Lib.hid B5; have HI5 := Lib.hid I5; have HL5 : Hid (∀ a, ao = some a → a.block ≠ w.heap.size + 1) := fun a ha => by { have h1 := L5 a ha; have h2 := R3.out.lt; omega }; have HC5 := Lib.hid (C3.out.trans (B5.mono C3.out.size)); have R5 := R3.out.keep B5 R3.out.lt; have HR5 := Lib.hid R5; have lt5 := R5.lt; obtain ⟨⟨x0, x1, x2, x3⟩, ⟨z0, z1, z2, z3⟩⟩ := R5.cells; clear R5 B5 I5 L5))
  rename_i hS
  clear hS d0 d1 d2 d3 d4 d5 c0 c1 c2 c3 c4 c5
  have HE := Lib.hid (rep_stored (c' := cd) (n' := vr) (d' := d) HR5.out (.slice ao m cap)).cells.1
  have HB := stored_besides w5 (w.heap.size + 1) cd vr d (.slice ao m cap)
  have HF := Lib.hid ((HI5.out.besides (Nat.le_refl _) HB (fun ao' n' cap' h a ha => by cases h; exact HL5.out a ha)).mono HB.size)
  have HG := Lib.hid (stored_below HC5.out (Nat.le_succ _) cd vr d (.slice ao m cap))
  clear HB
  go_wp2
  obtain ⟨e0, e1, e2, e3⟩ := HE.out
  unfold stored at e0 e1 e2 e3
  refine bodyPost_ret (v := .tuple #[.agg #[.int .i64 cd, .int .i64 vr, .string d, .slice ao m cap], .int .i64 0]) (by simp [results, Try.results69, go_sem, e0, e1, e2, e3]) rfl ⟨ao, cap, rfl, HF.out, HG.out⟩
end Go.Proofs.Ytenjjgghoacboaa
