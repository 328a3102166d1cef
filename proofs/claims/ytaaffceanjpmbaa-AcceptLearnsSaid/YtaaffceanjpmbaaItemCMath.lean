/-
  WHAT A READER FINDS OF A CHAIN in any bytes: pure facts.
-/
import Derived.Test.YtaaffceanjpmbaaItemMath
import Derived.Test.YtaaffceanjpmbaaItemCPut
namespace Go.Proofs.Ytaaffceanjpmbaa
open Go.RowKit

/-- So many numbers read one behind the other. -/
def rList (M : Nat) : Nat → Option (List UInt8) → List Nat × Option (List UInt8)
  | 0, st => ([], st)
  | k + 1, st => ((rNum M st).1 :: (rList M k (rNum M st).2).1, (rList M k (rNum M st).2).2)

theorem rList_length (M : Nat) : ∀ (k : Nat) (st : Option (List UInt8)), (rList M k st).1.length = k := by
  intro k
  induction k with
  | zero => intro st; rfl
  | succ k ih => intro st; simp only [rList, List.length_cons, ih]

theorem rList_got (M : Nat) : ∀ (k : Nat) (st : Option (List UInt8)) (r : List UInt8), (rList M k st).2 = some r → st = some (nodeBytes (rList M k st).1 ++ r) := by
  intro k
  induction k with
  | zero => intro st r h; simpa [rList, nodeBytes] using h
  | succ k ih =>
    intro st r h
    simp only [rList] at h ⊢
    have h1 := ih _ _ h
    have h2 : rNum M st = ((rNum M st).1, some (nodeBytes (rList M k (rNum M st).2).1 ++ r)) := by rw [← h1]
    have h3 := (rNum_got h2).1
    rw [← List.append_assoc] at h3
    exact h3

theorem rList_put (M : Nat) (hM : M < 18446744073709551616) : ∀ (L : List Nat) (r : List UInt8), (∀ x ∈ L, x ≤ M) → rList M L.length (some (nodeBytes L ++ r)) = (L, some r) := by
  intro L
  induction L with
  | nil => intro r _; simp [rList, nodeBytes]
  | cons x t ih =>
    intro r h
    have hx := h x (by simp)
    have e : nodeBytes (x :: t) ++ r = Lib.uvarint x ++ (nodeBytes t ++ r) := by simp [nodeBytes, List.append_assoc]
    have h1 := rNum_put M x (by omega) hx (nodeBytes t ++ r)
    rw [e]
    simp only [List.length_cons, rList, h1, ih r (fun y hy => h y (List.mem_cons_of_mem _ hy))]

structure CBounds where
  ep : Nat
  cnt : Nat
  el : Nat

def ch1 (B : CBounds) (l : List UInt8) := rNum B.ep (some l)
def ch2 (B : CBounds) (l : List UInt8) := rNum B.cnt (ch1 B l).2
def ch3 (B : CBounds) (l : List UInt8) := rList B.el (ch2 B l).1 (ch2 B l).2

structure GotC where
  ep : Nat
  nodes : List Nat

def gotC (B : CBounds) (l : List UInt8) : GotC := ⟨(ch1 B l).1, (ch3 B l).1⟩
def GotC.bytes (g : GotC) : List UInt8 := chainBytes g.ep g.nodes
def GotC.chain (g : GotC) : ChainV := ⟨g.ep, g.nodes.map fun (n : Nat) => (n : Int)⟩
def CBounds.wide (B : CBounds) : Prop := 1073741824 ≤ B.ep ∧ 5 ≤ B.cnt ∧ 4 ≤ B.el ∧ B.el < 18446744073709551616
def goodC (B : CBounds) (l : List UInt8) : Prop := (ch3 B l).2 = some [] ∧ (gotC B l).chain.may
instance (B : CBounds) (l : List UInt8) : Decidable (goodC B l) := by unfold goodC; infer_instance

theorem gotC_bytes {B : CBounds} {l r : List UInt8} (h : (ch3 B l).2 = some r) : l = (gotC B l).bytes ++ r := by
  have e3 := rList_got _ _ _ _ h
  have split1 : ∀ {α : Type} {x : α × Option (List UInt8)} {t : List UInt8}, x.2 = some t → x = (x.1, some t) := by intro α x t h; rw [← h]
  have e2 := (rNum_got (split1 e3)).1
  have e1 := (rNum_got (split1 e2)).1
  have hl : (ch3 B l).1.length = (ch2 B l).1 := rList_length _ _ _
  have := Option.some.inj e1
  conv => lhs; rw [this]
  simp only [GotC.bytes, gotC, chainBytes, List.append_assoc]
  rw [hl]
  rfl

theorem gotC_put {B : CBounds} (hB : B.wide) (g : GotC) (hm : g.chain.may) (r : List UInt8) : (ch3 B (g.bytes ++ r)).2 = some r ∧ gotC B (g.bytes ++ r) = g := by
  obtain ⟨b1, b2, b3, b4⟩ := hB
  obtain ⟨ep, L⟩ := g
  obtain ⟨m1, m2, m3, m4, m5⟩ := hm
  simp only [GotC.chain, List.length_map] at m1 m2 m3 m4 m5
  have hel : ∀ x ∈ L, x ≤ B.el := by
    intro x hx
    have := m5.1 (x : Int) (List.mem_map.2 ⟨x, hx, rfl⟩)
    omega
  have e1 : ch1 B (GotC.bytes ⟨ep, L⟩ ++ r) = (ep, some (Lib.uvarint L.length ++ (nodeBytes L ++ r))) := by
    simp only [ch1, GotC.bytes, chainBytes, List.append_assoc]
    exact rNum_put _ _ (by omega) (by omega) _
  have e2 : ch2 B (GotC.bytes ⟨ep, L⟩ ++ r) = (L.length, some (nodeBytes L ++ r)) := by
    simp only [ch2, e1]
    exact rNum_put _ _ (by omega) (by omega) _
  have e3 : ch3 B (GotC.bytes ⟨ep, L⟩ ++ r) = (L, some r) := by
    simp only [ch3, e2]
    exact rList_put _ b4 L r hel
  refine ⟨by rw [e3], ?_⟩
  simp only [gotC, e1, e3]

theorem goodC_put {B : CBounds} (hB : B.wide) (g : GotC) (hm : g.chain.may) : goodC B g.bytes ∧ gotC B g.bytes = g := by
  have h := gotC_put hB g hm []
  rw [List.append_nil] at h
  exact ⟨⟨h.1, by rw [h.2]; exact hm⟩, h.2⟩
theorem goodC_got {B : CBounds} {l : List UInt8} (h : goodC B l) : l = (gotC B l).bytes := by
  have := gotC_bytes h.1
  rwa [List.append_nil] at this
theorem goodC_same {B C : CBounds} (hC : C.wide) {l : List UInt8} (h : goodC B l) : goodC C l ∧ gotC C l = gotC B l := by
  have hb := goodC_got h
  have := goodC_put hC (gotC B l) h.2
  rw [← hb] at this
  exact this
theorem chain_apart (g h : GotC) (hg : g.chain.may) (hh : h.chain.may) (e : g.bytes = h.bytes) : g = h := by
  have w : CBounds.wide ⟨1073741824, 5, 4⟩ := by unfold CBounds.wide; decide
  have h1 := (goodC_put w g hg).2
  have h2 := (goodC_put w h hh).2
  rw [← h1, ← h2, e]

/-- A chain that may be, as numbers. -/
def ChainV.got (c : ChainV) : GotC := ⟨c.epoch.toNat, c.nodes.map Int.toNat⟩
theorem ChainV.got_chain (c : ChainV) (h : c.may) : c.got.chain = c := by
  obtain ⟨ep, L⟩ := c
  obtain ⟨m1, m2, m3, m4, m5⟩ := h
  simp only at m1 m5
  simp only [ChainV.got, GotC.chain]
  have h1 : ((ep.toNat : Nat) : Int) = ep := by omega
  have h2 : (L.map Int.toNat).map (fun (n : Nat) => (n : Int)) = L := by
    rw [List.map_map]
    conv => rhs; rw [← List.map_id L]
    apply List.map_congr_left
    intro x hx
    have := m5.1 x hx
    simp only [Function.comp, id]
    omega
  rw [h1, h2]
theorem ChainV.got_bytes (c : ChainV) : c.got.bytes = c.bytes := rfl

theorem chain_len (g : GotC) (hm : g.chain.may) : g.bytes.length ≤ 100 := by
  obtain ⟨ep, L⟩ := g
  obtain ⟨m1, m2, m3, m4, m5⟩ := hm
  simp only [GotC.chain, List.length_map] at m1 m2 m3 m4 m5
  have u1 := Lib.uvarint_length64 (show ep < 18446744073709551616 by omega)
  have u2 := Lib.uvarint_length64 (show L.length < 18446744073709551616 by omega)
  have u3 := nodeBytes_len L (fun x hx => by
    have := m5.1 (x : Int) (List.mem_map.2 ⟨x, hx, rfl⟩)
    omega)
  simp only [GotC.bytes, chainBytes, List.length_append]
  omega
end Go.Proofs.Ytaaffceanjpmbaa
