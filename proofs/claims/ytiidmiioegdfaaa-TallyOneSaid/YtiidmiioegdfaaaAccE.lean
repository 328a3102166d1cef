/-
  THE PROGRAM's ACCEPTOR: Bytes, by parts that are put one after the other. For an acceptor as it may be.
-/
import Derived.Test.YtiidmiioegdfaaaAccB
import Derived.Test.YtiidmiioegdfaaaPackBase
import Derived.Test.YtiidmiioegdfaaaBallotP
import Derived.Test.YtiidmiioegdfaaaItemC
namespace Go.Proofs.Ytiidmiioegdfaaa
open Go.RowKit

/-- A chain's bytes as a Text. -/
def chainText (ep : Int) (L : List Int) : List UInt8 := Lib.uvarint (ChainV.bytes ⟨ep, L⟩).length ++ ChainV.bytes ⟨ep, L⟩
def VoteV.bytes (v : VoteV) : List UInt8 := if v.has = true then balBytes v.ar.toNat v.an.toNat ++ chainText v.ce v.C else []
def AccV.head (s : AccV) : List UInt8 := chainText s.ke s.K ++ balBytes s.v.pr.toNat s.v.pn.toNat ++ [if s.v.has = true then 1 else 0]
/-- An acceptor's bytes. -/
def AccV.bytes (s : AccV) : List UInt8 := s.head ++ s.v.bytes
theorem chainBytes_len {ep : Int} {L : List Int} (h : ChainV.may ⟨ep, L⟩) : (ChainV.bytes ⟨ep, L⟩).length ≤ 100 := by
  have e := ChainV.got_chain ⟨ep, L⟩ h
  rw [← ChainV.got_bytes]
  exact chain_len _ (by rw [e]; exact h)
theorem chainText_len {ep : Int} {L : List Int} (h : ChainV.may ⟨ep, L⟩) : (chainText ep L).length ≤ 110 := by
  have h1 := chainBytes_len h
  have h2 := Lib.uvarint_length64 (x := (ChainV.bytes ⟨ep, L⟩).length) (by omega)
  unfold chainText
  rw [List.length_append]
  omega
theorem bal_len {r k : Int} (h : mayV r k = true) : (balBytes r.toNat k.toNat).length ≤ 20 := by
  have := mayV_yes.1 h
  exact balBytes_len (by omega) (by omega)
theorem AccV.ok.hlen {s : AccV} (h : s.ok) : s.head.length ≤ 131 := by
  have h1 := chainText_len h.may
  have h2 := bal_len h.p
  unfold AccV.head
  rw [List.length_append, List.length_append, List.length_singleton]
  omega
theorem AccV.ok.vlen {s : AccV} (h : s.ok) : s.v.bytes.length ≤ 130 := by
  unfold VoteV.bytes
  split
  · rename_i hh
    have h1 := chainText_len (h.yes hh).2.1
    have h2 := bal_len h.a
    rw [List.length_append]
    omega
  · simp
theorem AccV.ok.blen {s : AccV} (h : s.ok) : s.bytes.length ≤ 261 := by
  have h1 := h.hlen
  have h2 := h.vlen
  unfold AccV.bytes
  rw [List.length_append]
  omega

theorem KeepU.of {g : Nat} {w w' : World} (h : Below w.heap.size w w') : KeepU g w w' := ⟨h.size, fun k _ hk _ _ => (h.block k (Array.getElem?_eq_some_iff.1 hk).1).trans hk⟩
theorem KeepU.cells {g : Nat} {w w' : World} (h : KeepU g w w') {b : Nat} {cs : Array Value} {T : TypeId} (hb : w.heap[b]? = some (.cells cs T (0, 0))) (hg : b ≠ g) (hT : T ≠ 5) : w'.heap[b]? = some (.cells cs T (0, 0)) :=
  h.same b _ hb hg (fun cs' fr e => by simp only [Obj.cells.injEq] at e; exact hT e.2.1)
theorem RowI.keepU {g : Nat} {w w' : World} {v : Value} {L : List Int} (h : RowI w v L) (hk : KeepU g w w') {cs : Array Value} {T : TypeId} (hg : w.heap[g]? = some (.cells cs T (0, 0))) (hT : T ≠ 3) : RowI w' v L := by
  obtain ⟨ao, cap, rfl, h1, h2, h3, h4⟩ := h
  refine ⟨ao, cap, rfl, h1, h2, h3, fun hl => ?_⟩
  obtain ⟨b, off, cs', rfl, hb, hc⟩ := h4 hl
  have hne : b ≠ g := fun e => by
    subst e
    rw [hg] at hb
    simp only [Option.some.injEq, Obj.cells.injEq] at hb
    exact hT hb.2.1
  have e := hk.cells hb hne (by decide)
  exact ⟨b, off, cs', rfl, e, fun j hj => (World.cell?_of_block (a := ⟨b, off + j, Option.none⟩) (e.trans hb.symm)).trans (hc j hj)⟩

/-- A call of this function enters it. -/
def Enters (fn : FuncId) : Prop := ∀ (args : Array Value) (u : World), (callFunc fn args).run Try.prog u = .ok (.enter fn args) u
/-- What puts some bytes to the writer g, whatever else was put before. -/
def PartK (w : World) (g : Nat) (fn : FuncId) (bx : Nat) (bs : List UInt8) : Prop :=
  ∀ u xs, KeepU g w u → Below g w u → Wrt u g xs → xs.length ≤ 100000 → Calls Try.prog fn #[.pointer (some ⟨g, 0, none⟩), .pointer (some ⟨bx, 0, none⟩)] u fun e w' => e = .returned (.tuple #[]) ∧ Wrt w' g (xs ++ bs) ∧ Below g u w' ∧ KeepU g u w'

/-- What the first k of some parts put. -/
def flatB (bs : Nat → List UInt8) (k : Nat) : List UInt8 := (List.range k).flatMap bs
theorem flatB_succ (bs : Nat → List UInt8) (k : Nat) : flatB bs (k + 1) = flatB bs k ++ bs k := by simp [flatB, List.range_succ]
theorem flatB_len (bs : Nat → List UInt8) (h : ∀ j, (bs j).length ≤ 1000) (k : Nat) : (flatB bs k).length ≤ k * 1000 := by
  induction k with
  | zero => simp [flatB]
  | succ k ih => rw [flatB_succ, List.length_append]; have := h k; omega

end Go.Proofs.Ytiidmiioegdfaaa
