/-
  A TABLE AS A TREE IN MEMORY: worlds alike but in some blocks; a node's block; a tree with its blocks, its heights, its list. No condition.
-/
import Derived.Test.YtkieifkbkmdgdaaItemCV
import Derived.Deep.QuietTactic
import Derived.BigQuiet
import Derived.Deep.RegionHeld3
import Derived.Deep.DeepCutAuto
import Derived.Deep.LoopGhost
import Derived.BigRegion
import Derived.Deep.RegionWith
namespace Go.Proofs.Ytkieifkbkmdgdaa
open Go.RowKit

theorem info_int6 : (Try.prog.info? 3).map (fun i => (i.zero, i.size, i.bytes)) = some (some (.int .i64 0), 1, 8) := by kernel_rfl

/-- All blocks but those of S are as they were. -/
structure Only (S : Nat → Prop) (w w' : World) : Prop where
  os : w'.os = w.os
  tape : w'.tape = w.tape
  output : w'.output = w.output
  size : w.heap.size ≤ w'.heap.size
  block : ∀ k, k < w.heap.size → ¬ S k → w'.heap[k]? = w.heap[k]?

theorem Only.refl (S : Nat → Prop) (w : World) : Only S w w := ⟨rfl, rfl, rfl, Nat.le_refl _, fun _ _ _ => rfl⟩
theorem Only.then {S S' : Nat → Prop} {u v w : World} (h : Only S u v) (k : Only S' v w) (hs : ∀ x, x < u.heap.size → S' x → S x) : Only S u w :=
  ⟨k.os.trans h.os, k.tape.trans h.tape, k.output.trans h.output, Nat.le_trans h.size k.size, fun i hi hn => (k.block i (Nat.lt_of_lt_of_le hi h.size) (fun hx => hn (hs i hi hx))).trans (h.block i hi hn)⟩
theorem Only.trans {S : Nat → Prop} {u v w : World} (h : Only S u v) (k : Only S v w) : Only S u w := h.then k fun _ _ hx => hx
theorem Only.mono {S S' : Nat → Prop} {w w' : World} (h : Only S w w') (hs : ∀ x, x < w.heap.size → S x → S' x) : Only S' w w' := ⟨h.os, h.tape, h.output, h.size, fun k hk hn => h.block k hk fun hx => hn (hs k hk hx)⟩
theorem Only.of {S : Nat → Prop} {w w' : World} (h : Below w.heap.size w w') : Only S w w' := ⟨h.os, h.tape, h.output, h.size, fun k hk _ => h.block k hk⟩
theorem Only.set (b o : Nat) (w : World) (u : Value) : Only (· = b) w (w.setCell ⟨b, o, none⟩ u) := ⟨rfl, rfl, rfl, by simp [World.setCell], fun j _ hj => Below.heap_setCell _ _ _ _ hj⟩
theorem Only.drewN (S : Nat → Prop) (w : World) (n : Nat) : Only S w (w.drewN n) := ⟨rfl, rfl, rfl, Nat.le_refl _, fun _ _ _ => rfl⟩
theorem Only.drew {S : Nat → Prop} {w w' : World} (h : Only S w w') : Only S w w'.drew := ⟨h.os, h.tape, h.output, h.size, h.block⟩
theorem Only.alloc (S : Nat → Prop) (w : World) (o : Obj) : Only S w (w.alloc o) := .of ((Below.refl _ _).alloc (Nat.le_refl _) o)
/-- What was there below n is as it was, if no block of S lies there. -/
theorem Only.below {S : Nat → Prop} {n : Nat} {a w w' : World} (h : Only S w w') (hb : Below n a w) (hs : ∀ x, S x → n ≤ x) (hn : n ≤ w.heap.size) : Below n a w' :=
  hb.trans ⟨h.os, h.tape, h.output, h.size, fun k hk => h.block k (by omega) (fun hx => by have := hs k hx; omega)⟩
theorem Only.cell {S : Nat → Prop} {w w' : World} (h : Only S w w') {p : Addr} (hp : p.block < w.heap.size) (hn : ¬ S p.block) : w'.cell? p = w.cell? p := World.cell?_of_block (w := w) (h.block p.block hp hn)
theorem Only.frozen {S : Nat → Prop} {w w' : World} (h : Only S w w') {p : Addr} (hp : p.block < w.heap.size) (hn : ¬ S p.block) : w'.frozen? p = w.frozen? p := World.frozen?_of_block (w := w) (h.block p.block hp hn)

/-- Block b is a node. -/
def NodeAt (w : World) (b : Nat) (k v : Int) (p q : Value) (h : Int) : Prop := w.heap[b]? = some (.cells #[.int .i64 k, .int .i64 v, p, q, .int .i64 h] 59 (0, 0))
theorem NodeAt.cells {w : World} {b : Nat} {k v : Int} {p q : Value} {h : Int} (H : NodeAt w b k v p q h) :
    w.cell? ⟨b, 0, none⟩ = some (.int .i64 k) ∧ w.cell? ⟨b, 1, none⟩ = some (.int .i64 v) ∧ w.cell? ⟨b, 2, none⟩ = some p ∧ w.cell? ⟨b, 3, none⟩ = some q ∧ w.cell? ⟨b, 4, none⟩ = some (.int .i64 h) := by
  have H' : w.heap[b]? = some (.cells #[.int .i64 k, .int .i64 v, p, q, .int .i64 h] 59 (0, 0)) := H
  refine ⟨?_, ?_, ?_, ?_, ?_⟩ <;> simp [World.cell?, H']
theorem NodeAt.free {w : World} {b : Nat} {k v : Int} {p q : Value} {h : Int} (H : NodeAt w b k v p q h) :
    w.frozen? ⟨b, 0, none⟩ = false ∧ w.frozen? ⟨b, 1, none⟩ = false ∧ w.frozen? ⟨b, 2, none⟩ = false ∧ w.frozen? ⟨b, 3, none⟩ = false ∧ w.frozen? ⟨b, 4, none⟩ = false := by
  have H' : w.heap[b]? = some (.cells #[.int .i64 k, .int .i64 v, p, q, .int .i64 h] 59 (0, 0)) := H
  refine ⟨?_, ?_, ?_, ?_, ?_⟩ <;> simp [World.frozen?, H']
theorem NodeAt.lt {w : World} {b : Nat} {k v : Int} {p q : Value} {h : Int} (H : NodeAt w b k v p q h) : b < w.heap.size := lt_of_block H
theorem NodeAt.keep {S : Nat → Prop} {w w' : World} {b : Nat} {k v : Int} {p q : Value} {h : Int} (H : NodeAt w b k v p q h) (ho : Only S w w') (hn : ¬ S b) : NodeAt w' b k v p q h := (ho.block b H.lt hn).trans H
theorem NodeAt.drew {w : World} {b : Nat} {k v : Int} {p q : Value} {h : Int} (H : NodeAt w b k v p q h) : NodeAt w.drew b k v p q h := H
theorem NodeAt.drewN {w : World} {b : Nat} {k v : Int} {p q : Value} {h : Int} (H : NodeAt w b k v p q h) (n : Nat) : NodeAt (w.drewN n) b k v p q h := H
theorem NodeAt.setK {w : World} {b : Nat} {k v : Int} {p q : Value} {h : Int} (H : NodeAt w b k v p q h) (x : Int) : NodeAt (w.setCell ⟨b, 0, none⟩ (.int .i64 x)) b x v p q h := by
  show (w.setCell _ _).heap[b]? = _
  rw [heap_setCell_same _ _ _ _ _ _ H]; rfl
theorem NodeAt.setV {w : World} {b : Nat} {k v : Int} {p q : Value} {h : Int} (H : NodeAt w b k v p q h) (x : Int) : NodeAt (w.setCell ⟨b, 1, none⟩ (.int .i64 x)) b k x p q h := by
  show (w.setCell _ _).heap[b]? = _
  rw [heap_setCell_same _ _ _ _ _ _ H]; rfl
theorem NodeAt.setL {w : World} {b : Nat} {k v : Int} {p q : Value} {h : Int} (H : NodeAt w b k v p q h) (x : Value) : NodeAt (w.setCell ⟨b, 2, none⟩ x) b k v x q h := by
  show (w.setCell _ _).heap[b]? = _
  rw [heap_setCell_same _ _ _ _ _ _ H]; rfl
theorem NodeAt.setR {w : World} {b : Nat} {k v : Int} {p q : Value} {h : Int} (H : NodeAt w b k v p q h) (x : Value) : NodeAt (w.setCell ⟨b, 3, none⟩ x) b k v p x h := by
  show (w.setCell _ _).heap[b]? = _
  rw [heap_setCell_same _ _ _ _ _ _ H]; rfl
theorem NodeAt.setH {w : World} {b : Nat} {k v : Int} {p q : Value} {h : Int} (H : NodeAt w b k v p q h) (x : Int) : NodeAt (w.setCell ⟨b, 4, none⟩ (.int .i64 x)) b k v p q x := by
  show (w.setCell _ _).heap[b]? = _
  rw [heap_setCell_same _ _ _ _ _ _ H]; rfl

/-- A tree with its blocks. -/
inductive BT where
  | nil
  | node (b : Nat) (k v : Int) (l r : BT)
def BT.ptr : BT → Value
  | .nil => .pointer none
  | .node b _ _ _ _ => .pointer (some ⟨b, 0, none⟩)
theorem BT.ptr_is : ∀ T : BT, ∃ a, T.ptr = .pointer a
  | .nil => ⟨_, rfl⟩
  | .node .. => ⟨_, rfl⟩
def BT.has : BT → Nat → Prop
  | .nil, _ => False
  | .node b _ _ l r, x => x = b ∨ l.has x ∨ r.has x
def BT.ht : BT → Nat
  | .nil => 0
  | .node _ _ _ l r => 1 + max l.ht r.ht
def BT.list : BT → List (Int × Int)
  | .nil => []
  | .node _ k v l r => l.list ++ (k, v) :: r.list
theorem BT.ht_le : ∀ T : BT, T.ht ≤ T.list.length
  | .nil => Nat.le_refl _
  | .node _ _ _ l r => by
    have h1 := l.ht_le
    have h2 := r.ht_le
    simp only [BT.ht, BT.list, List.length_append, List.length_cons]
    omega

/-- A tree of the world w whose top's height may be another one. -/
def Half (w : World) (Tr : BT → Prop) (b : Nat) (k v : Int) (l r : BT) (h : Int) : Prop :=
  NodeAt w b k v l.ptr r.ptr h ∧ Tr l ∧ Tr r ∧ ¬ l.has b ∧ ¬ r.has b ∧ ∀ x, l.has x → ¬ r.has x
/-- The world w has the tree T: each block once, each height right. -/
def Tr (w : World) : BT → Prop
  | .nil => True
  | .node b k v l r => NodeAt w b k v l.ptr r.ptr ((1 + max l.ht r.ht : Nat) : Int) ∧ Tr w l ∧ Tr w r ∧ ¬ l.has b ∧ ¬ r.has b ∧ ∀ x, l.has x → ¬ r.has x
theorem Tr.half {w : World} {b : Nat} {k v : Int} {l r : BT} (h : Tr w (.node b k v l r)) : Half w (Tr w) b k v l r ((1 + max l.ht r.ht : Nat) : Int) := h

theorem Tr.lt {w : World} : ∀ {T : BT}, Tr w T → ∀ x, T.has x → x < w.heap.size
  | .nil, _, _, hx => hx.elim
  | .node _ _ _ _ _, ⟨h, hl, hr, _⟩, x, hx => by
    rcases hx with rfl | hx | hx
    · exact NodeAt.lt h
    · exact hl.lt x hx
    · exact hr.lt x hx
theorem Tr.keep {S : Nat → Prop} {w w' : World} (ho : Only S w w') : ∀ {T : BT}, Tr w T → (∀ x, T.has x → ¬ S x) → Tr w' T
  | .nil, _, _ => trivial
  | .node _ _ _ _ _, ⟨h, hl, hr, h1, h2, h3⟩, hn => ⟨h.keep ho (hn _ (.inl rfl)), hl.keep ho fun x hx => hn x (.inr (.inl hx)), hr.keep ho fun x hx => hn x (.inr (.inr hx)), h1, h2, h3⟩

/-- p is a pointer to a tree's top of the height h. -/
def Hgt (w : World) (p : Value) (h : Int) : Prop := (p = .pointer none ∧ h = 0) ∨ ∃ b k v l r, p = .pointer (some ⟨b, 0, none⟩) ∧ NodeAt w b k v l r h
theorem Tr.hgt {w : World} : ∀ {T : BT}, Tr w T → Hgt w T.ptr (T.ht : Int)
  | .nil, _ => .inl ⟨rfl, rfl⟩
  | .node _ _ _ _ _, h => .inr ⟨_, _, _, _, _, rfl, h.1⟩
theorem Hgt.heap {w w' : World} {p : Value} {h : Int} (H : Hgt w p h) (e : w'.heap = w.heap) : Hgt w' p h := by
  rcases H with H | ⟨b, k, v, l, r, h1, h2⟩
  · exact .inl H
  · exact .inr ⟨b, k, v, l, r, h1, by show w'.heap[b]? = _; rw [e]; exact h2⟩

set_option maxHeartbeats 400000 in
theorem high_any (p : Value) (h : Int) (w : World) (H : Hgt w p h) : Calls Try.prog 41 #[p] w fun e w' => e = .returned (.int .i64 h) ∧ w = w' := by
  rcases H with ⟨rfl, rfl⟩ | ⟨b, k, v, l, r, rfl, H⟩
  · go_enter Try.func41, Try.ntmps41
    go_wp2
    go_returns
    exact ⟨rfl, rfl⟩
  · obtain ⟨_, _, _, _, c4⟩ := H.cells
    clear H
    go_enter Try.func41, Try.ntmps41
    go_wp2
    go_returns
    exact ⟨rfl, rfl⟩

set_option maxHeartbeats 400000 in
theorem side_lt (b : Nat) (k k0 v : Int) (p q : Value) (h : Int) (w : World) (H : NodeAt w b k0 v p q h) (hk : k < k0) :
    Calls Try.prog 38 #[.pointer (some ⟨b, 0, none⟩), .int .i64 k] w fun e w' => e = .returned (.int .i64 0) ∧ w = w' := by
  obtain ⟨c0, _⟩ := H.cells
  clear H
  go_enter Try.func38, Try.ntmps38
  go_wp2
  go_returns
  exact ⟨rfl, rfl⟩
set_option maxHeartbeats 400000 in
theorem side_ge (b : Nat) (k k0 v : Int) (p q : Value) (h : Int) (w : World) (H : NodeAt w b k0 v p q h) (hk : k0 ≤ k) :
    Calls Try.prog 38 #[.pointer (some ⟨b, 0, none⟩), .int .i64 k] w fun e w' => e = .returned (.int .i64 1) ∧ w = w' := by
  obtain ⟨c0, _⟩ := H.cells
  clear H
  go_enter Try.func38, Try.ntmps38
  go_wp2
  go_returns
  exact ⟨rfl, rfl⟩

set_option maxHeartbeats 1000000 in
theorem measure_any (b : Nat) (k v : Int) (p q : Value) (h hp hq : Int) (w : World) (H : NodeAt w b k v p q h) (HP : Hgt w p hp) (HQ : Hgt w q hq) (b1 : 0 ≤ hp ∧ hp ≤ 1000000) (b2 : 0 ≤ hq ∧ hq ≤ 1000000) :
    Calls Try.prog 43 #[.pointer (some ⟨b, 0, none⟩)] w fun e w' => (∃ u, e = .returned u) ∧ Only (· = b) w w' ∧ NodeAt w' b k v p q (1 + max hp hq) := by
  obtain ⟨_, _, c2, c3, c4⟩ := H.cells
  obtain ⟨_, _, _, _, z4⟩ := H.free
  have KP : Hid (∀ u, u.heap = w.heap → Calls Try.prog 41 #[p] u fun e u' => e = .returned (.int .i64 hp) ∧ u = u') := fun u hu => high_any p hp u (HP.heap hu)
  have KQ : Hid (∀ u, u.heap = w.heap → Calls Try.prog 41 #[q] u fun e u' => e = .returned (.int .i64 hq) ∧ u = u') := fun u hu => high_any q hq u (HQ.heap hu)
  have HH := Lib.hid H
  have K2 : Hid (∀ x, (w.setCell ⟨b, 4, none⟩ (.int .i64 x)).cell? ⟨b, 2, none⟩ = some p ∧ (w.setCell ⟨b, 4, none⟩ (.int .i64 x)).cell? ⟨b, 3, none⟩ = some q) := fun x => ⟨(H.setH x).cells.2.2.1, (H.setH x).cells.2.2.2.1⟩
  clear HP HQ H
  go_enter Try.func43, Try.ntmps43
  go_wp2_with fail
  go_region_held3 (fun u => u.cell? ⟨b, 2, none⟩ = some p ∧ u.cell? ⟨b, 3, none⟩ = some q) (first | (with_reducible exact ⟨c2, c3⟩) | assumption | (exact ⟨c2, c3⟩) | (exact K2.out _))
    (first
      | (go_at_call 41; (with_reducible refine (KP.out _ ?_).mono ?_); (focus rfl); rintro e u1 ⟨rfl, rfl⟩)
      | (go_at_call 41; (with_reducible refine (KQ.out _ ?_).mono ?_); (focus rfl); rintro e u1 ⟨rfl, rfl⟩))
  go_end0
  have e : IntKind.i64.wrap (1 + if hp < hq then hq else hp) = 1 + max hp hq := by
    rw [IntWalk.i64_in _ (by split <;> omega)]
    split <;> omega
  rw [e]
  exact ⟨⟨_, rfl⟩, (Only.set b 4 w _).drew, (HH.out.setH _).drew⟩

/-- What raise makes of a node and its branch below. -/
theorem raise_l (b : Nat) (k v h : Int) (b' : Nat) (k' v' : Int) (l' r' r : BT) (w : World) (H : Half w (Tr w) b k v (.node b' k' v' l' r') r h) (hl : l'.ht ≤ 100000) (hr' : r'.ht ≤ 100000) (hr : r.ht ≤ 100000) :
    Calls Try.prog 42 #[.pointer (some ⟨b, 0, none⟩), .int .i64 0] w fun e w' => e = .returned (.pointer (some ⟨b', 0, none⟩)) ∧ Tr w' (.node b' k' v' l' (.node b k v r' r)) ∧ Only (fun x => x = b ∨ x = b') w w' := by
  obtain ⟨HN, ⟨HN', HL, HR', n1, n2, n3⟩, HR, n4, n5, n6⟩ := H
  obtain ⟨_, _, c2, c3, _⟩ := HN.cells
  obtain ⟨_, _, z2, z3, _⟩ := HN.free
  obtain ⟨_, _, d2, d3, _⟩ := HN'.cells
  obtain ⟨_, _, y2, y3, _⟩ := HN'.free
  have c2' : w.cell? ⟨b, 2, none⟩ = some (.pointer (some ⟨b', 0, none⟩)) := c2
  have hne : b ≠ b' := fun e => n4 (.inl e)
  have q1 : (b == b') = false := beq_eq_false_iff_ne.2 hne
  have su : IntKind.i64.wrap 1 = 1 := by decide
  have K1 := Lib.hid HN
  have K2 := Lib.hid HN'
  have K3 := Lib.hid HL
  have K4 := Lib.hid HR'
  have K5 := Lib.hid HR
  have M1 := Lib.hid n1
  have M2 := Lib.hid n2
  have M3 := Lib.hid n3
  have M4 := Lib.hid n4
  have M5 := Lib.hid n5
  have M6 := Lib.hid n6
  clear c2 HN HN' HL HR' HR n1 n2 n3 n4 n5 n6
  obtain ⟨pr, hpr⟩ := r'.ptr_is
  rw [hpr] at d3
  have HP := Lib.hid hpr
  clear hpr
  go_enter Try.func42, Try.ntmps42
  go_wp2_with fail
  go_region
  have HB' : Hid (∀ x, (x = b ∨ x = b') → ¬ r.has x ∧ ¬ r'.has x ∧ ¬ l'.has x) := by
    rintro x (rfl | rfl)
    · exact ⟨M5.out, fun hx => M4.out (.inr (.inr hx)), fun hx => M4.out (.inr (.inl hx))⟩
    · exact ⟨fun hx => M6.out _ (.inl rfl) hx, M2.out, M1.out⟩
  obtain ⟨W1, hW, O1, A1, B1⟩ : ∃ W1, W1 = ((w.setCell ⟨b, 2, none⟩ (.pointer pr)).setCell ⟨b', 3, none⟩ (.pointer (some ⟨b, 0, none⟩))).drew ∧ Only (fun x => x = b ∨ x = b') w W1 ∧ NodeAt W1 b k v (.pointer pr) r.ptr h ∧ NodeAt W1 b' k' v' l'.ptr (.pointer (some ⟨b, 0, none⟩)) ((1 + max l'.ht r'.ht : Nat) : Int) :=
    ⟨_, rfl, (((Only.set b 2 w _).mono fun _ _ hx => .inl hx).then (Only.set b' 3 _ _) fun _ _ hx => .inr hx).drew,
      ((K1.out.setL _).keep (Only.set b' 3 _ _) hne).drew, ((K2.out.keep (Only.set b 2 w _) (fun e => hne e.symm)).setR _).drew⟩
  rw [← hW]
  have KO := Lib.hid O1
  have KB := Lib.hid B1
  have T1 := Lib.hid (Tr.keep O1 K3.out fun x hx hb => (HB'.out x hb).2.2 hx)
  have T2 := Lib.hid (Tr.keep O1 K4.out fun x hx hb => (HB'.out x hb).2.1 hx)
  have T3 := Lib.hid (Tr.keep O1 K5.out fun x hx hb => (HB'.out x hb).1 hx)
  have X2 := T2.out.hgt
  rw [HP.out] at X2
  have HM := Lib.hid (measure_any b k v (.pointer pr) r.ptr h r'.ht r.ht W1 A1 X2 T3.out.hgt ⟨by omega, by omega⟩ ⟨by omega, by omega⟩)
  clear hW O1 A1 B1 K1 K2 K3 K4 K5 c2' c3 d2 d3 z2 z3 y2 y3 X2
  go_wp2_with fail
  refine HM.out.mono ?_
  rintro e W2 ⟨⟨u, rfl⟩, O2, A2⟩
  have KO2 : Hid (Only (fun x => x = b ∨ x = b') w W2) := KO.out.then O2 fun _ _ hx => .inl hx
  have B2 := KB.out.keep O2 (fun e => hne e.symm)
  have S1 := Lib.hid (Tr.keep O2 T1.out fun x hx hb => (HB'.out x (.inl hb)).2.2 hx)
  have S2 := Lib.hid (Tr.keep O2 T2.out fun x hx hb => (HB'.out x (.inl hb)).2.1 hx)
  have S3 := Lib.hid (Tr.keep O2 T3.out fun x hx hb => (HB'.out x (.inl hb)).1 hx)
  have KA := Lib.hid A2
  have HM2 := Lib.hid (measure_any b' k' v' l'.ptr (.pointer (some ⟨b, 0, none⟩)) _ l'.ht (1 + max (r'.ht : Int) r.ht) W2 B2 S1.out.hgt (.inr ⟨_, _, _, _, _, rfl, A2⟩) ⟨by omega, by omega⟩ ⟨by omega, by omega⟩)
  clear O2 A2 B2 KO KB T1 T2 T3 HM
  go_wp2_with fail
  refine HM2.out.mono ?_
  rintro e W3 ⟨⟨u2, rfl⟩, O3, A3⟩
  have KO3 : Hid (Only (fun x => x = b ∨ x = b') w W3) := KO2.out.then O3 fun _ _ hx => .inr hx
  have KA2 := Lib.hid (KA.out.keep O3 hne)
  have U1 := Lib.hid (Tr.keep O3 S1.out fun x hx hb => (HB'.out x (.inr hb)).2.2 hx)
  have U2 := Lib.hid (Tr.keep O3 S2.out fun x hx hb => (HB'.out x (.inr hb)).2.1 hx)
  have U3 := Lib.hid (Tr.keep O3 S3.out fun x hx hb => (HB'.out x (.inr hb)).1 hx)
  have KA3 := Lib.hid A3
  clear O3 A3 KO2 S1 S2 S3 HM2 KA
  go_wp2
  go_returns
  refine ⟨rfl, ⟨?_, U1.out, ⟨?_, U2.out, U3.out, fun hx => M4.out (.inr (.inr hx)), M5.out, fun x hx hr => M6.out x (.inr (.inr hx)) hr⟩, M1.out, ?_, ?_⟩, KO3.out⟩
  · have h := KA3.out
    have e : (1 + max (l'.ht : Int) (1 + max (r'.ht : Int) r.ht)) = ((1 + max l'.ht (BT.node b k v r' r).ht : Nat) : Int) := by simp only [BT.ht]; omega
    rw [e] at h
    exact h
  · have h := KA2.out
    rw [← HP.out] at h
    have e : (1 + max (r'.ht : Int) r.ht) = ((1 + max r'.ht r.ht : Nat) : Int) := by omega
    rw [e] at h
    exact h
  · rintro (e | hx | hx)
    · exact hne e.symm
    · exact M2.out hx
    · exact M6.out _ (.inl rfl) hx
  · rintro x hx (rfl | hy | hy)
    · exact M4.out (.inr (.inl hx))
    · exact M3.out x hx hy
    · exact M6.out x (.inr (.inl hx)) hy
end Go.Proofs.Ytkieifkbkmdgdaa
