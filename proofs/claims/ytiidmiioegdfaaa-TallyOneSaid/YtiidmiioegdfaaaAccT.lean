/-
  AN ACCEPTOR AS A LAW HAS IT: its blocks lie from n on, what was there below n is as it was; each call by contract, what else stands; told. For acceptors as they may be.
-/
import Derived.Test.YtiidmiioegdfaaaAccD
import Derived.Test.YtiidmiioegdfaaaAccE
namespace Go.Proofs.Ytiidmiioegdfaaa
open Go.RowKit

/-- All blocks but acceptors stand. -/
structure KAc (w w' : World) : Prop where
  size : w.heap.size ≤ w'.heap.size
  same : ∀ (b : Nat) (cs : Array Value) (T : TypeId), w.heap[b]? = some (.cells cs T (0, 0)) → T ≠ 76 → w'.heap[b]? = some (.cells cs T (0, 0))
theorem KAc.of {w w' : World} (h : Below w.heap.size w w') : KAc w w' := ⟨h.size, fun b _ _ hb _ => (h.block b (lt_of_block hb)).trans hb⟩
theorem KAc.trans {u v w : World} (h : KAc u v) (k : KAc v w) : KAc u w := ⟨Nat.le_trans h.size k.size, fun b cs T hb hT => k.same b cs T (h.same b cs T hb hT) hT⟩
theorem KAc.only {w w' : World} {p : Nat} {s : AccV} (hA : Acc 76 w p s) (ho : Only (· = p) w w') : KAc w w' := ⟨ho.size, fun b cs T hb hT => (ho.block b (lt_of_block hb) fun e => by
  subst e
  obtain ⟨cs', h⟩ := hA.kind
  rw [h] at hb
  simp only [Option.some.injEq, Obj.cells.injEq] at hb
  exact hT hb.2.1.symm).trans hb⟩
theorem KAc.row {w w' : World} (h : KAc w w') {v : Value} {L : List Int} (hr : RowI w v L) : RowI w' v L := by
  obtain ⟨ao, cap, rfl, h1, h2, h3, h4⟩ := hr
  refine ⟨ao, cap, rfl, h1, h2, h3, fun hl => ?_⟩
  obtain ⟨b, off, cs, rfl, hb, hc⟩ := h4 hl
  have e := h.same b cs _ hb (by decide)
  exact ⟨b, off, cs, rfl, e, fun j hj => (World.cell?_of_block (a := ⟨b, off + j, Option.none⟩) (e.trans hb.symm)).trans (hc j hj)⟩
theorem KAc.ch {w w' : World} (h : KAc w w') {b : Nat} {ep : Int} {v : Value} (hc : ChT w b ep v) : ChT w' b ep v := h.same b _ _ hc (by decide)
theorem KAc.vot {w w' : World} (h : KAc w w') {b : Nat} {v : VoteV} {cv : Value} (hc : VotB w b v cv) : VotB w' b v cv := h.same b _ _ hc (by decide)

/-- Acceptor p, from block n on, in state s; what was there below n in w0 is as it was. -/
structure AO (n : Nat) (w0 : World) (p : Nat) (s : AccV) (w : World) : Prop where
  a : Acc 76 w p s
  low : n ≤ p
  size : n ≤ w.heap.size
  bel : Below n w0 w
  ok : s.ok
section
variable {n p : Nat} {w0 w w' : World} {s : AccV}
theorem AO.on (h : AO n w0 p s w) (hb : Below w.heap.size w w') : AO n w0 p s w' := ⟨h.a.on hb, h.low, Nat.le_trans h.size hb.size, h.bel.trans (hb.mono h.size), h.ok⟩
theorem AO.drew (h : AO n w0 p s w) : AO n w0 p s w.drew := h.on (Below.drew (Below.refl _ _))
theorem AO.turn {s' : AccV} (h : AO n w0 p s w) (ha : Acc 76 w' p s') (ho : Only (· = p) w w') (hok : s'.ok) : AO n w0 p s' w' ∧ KAc w w' :=
  ⟨⟨ha, h.low, Nat.le_trans h.size ho.size, ho.below h.bel (fun x hx => by have := h.low; omega) h.size, hok⟩, .only h.a ho⟩
theorem ao_new (m : Nat) (h1 : 1 ≤ m) (h5 : m ≤ 5) (hb : Below n w0 w) (hn : n ≤ w.heap.size) : Calls Try.prog 23 #[.int .i64 m] w fun e w' => ∃ p, e = .returned (.tuple #[.pointer (some ⟨p, 0, none⟩), .int .i64 0]) ∧ Hid (AO n w0 p (AccV.first m) w' ∧ Below w.heap.size w w') :=
  (anew_in m h1 h5 w).mono fun _ _ ⟨p, he, hp, ha, hb'⟩ => ⟨p, he, ⟨ha, Nat.le_trans hn hp, Nat.le_trans hn hb'.size, hb.trans (hb'.mono hn), AccV.ok_first m h1 h5⟩, hb'⟩
theorem ao_prep (h : AO n w0 p s w) (ep r k : Int) {s' : AccV} {V : VoteV} {err : Int} (hs : prepS s ep r k = s') (hv : prepV s ep r k = V) (herr : prepE s ep r k = err) :
    Calls Try.prog 25 #[.pointer (some ⟨p, 0, none⟩), .int .i64 ep, .agg #[.int .i64 r, .int .i64 k]] w fun e w' => ∃ a m c, e = .returned (.tuple #[.agg #[.int .i64 V.pr, .int .i64 V.pn, .int .i64 V.ar, .int .i64 V.an, .bool V.has, .int .i64 V.ce, .slice a m c], .int .i64 err]) ∧ Hid (RowI w' (.slice a m c) V.C ∧ AO n w0 p s' w' ∧ KAc w w') :=
  (aprep_r h.a h.ok.wrap (by have := h.ok.len; omega) ep r k hs hv herr).mono fun _ _ ⟨a, c, he, hh⟩ => ⟨a, _, c, he, hh.out.1, h.turn hh.out.2.1 hh.out.2.2 (hs ▸ AccV.ok_prep h.ok ep r k)⟩
theorem ao_acc (h : AO n w0 p s w) (ec : Int) (vv : Value) (L : List Int) (B : Nat) (hI : Ints w B vv L) (hB : B ≤ w.heap.size) (hlim : L.length ≤ 1000000) (r k : Int) (veto : Bool) {s' : AccV} {err : Int} (hs : accS s ec L r k veto = s') (herr : accE s ec L r k veto = err) :
    Calls Try.prog 26 #[.pointer (some ⟨p, 0, none⟩), .agg #[.int .i64 ec, vv], .agg #[.int .i64 r, .int .i64 k], .bool veto] w fun e w' => e = .returned (.int .i64 err) ∧ Hid (AO n w0 p s' w' ∧ KAc w w') :=
  (aacc_r h.a h.ok.wrap ec vv L B hI hB hlim r k veto hs herr).mono fun _ _ ⟨he, hh⟩ => ⟨he, h.turn hh.out.1 hh.out.2 (hs ▸ AccV.ok_acc h.ok ec L r k veto)⟩
theorem ao_vote (h : AO n w0 p s w) : Calls Try.prog 42 #[.pointer (some ⟨p, 0, none⟩)] w fun e w' => ∃ a m c, e = .returned (.agg #[.int .i64 s.v.pr, .int .i64 s.v.pn, .int .i64 s.v.ar, .int .i64 s.v.an, .bool s.v.has, .int .i64 s.v.ce, .slice a m c]) ∧ Hid (RowI w' (.slice a m c) s.v.C ∧ AO n w0 p s w' ∧ Below w.heap.size w w') := by
  obtain ⟨kv, cv, ha⟩ := h.a
  exact (avote_r ha (by have := h.ok.len; omega)).mono fun _ _ ⟨a, c, he, hh⟩ => ⟨a, _, c, he, hh.out.1, h.on hh.out.2, hh.out.2⟩
end

/-- told's acceptor: of three nodes; one ballot promised; a chain accepted; learnt. -/
def s13a : AccV := ⟨3, 1, [0, 1, 2], ⟨1, 0, 0, 0, false, 0, []⟩⟩
def s13b : AccV := ⟨3, 1, [0, 1, 2], ⟨1, 0, 1, 0, true, 2, [0, 2]⟩⟩
def s13c : AccV := ⟨3, 2, [0, 2], VoteV.zero⟩
theorem first3 : AccV.first 3 = ⟨3, 1, [0, 1, 2], VoteV.zero⟩ := rfl
theorem t13a : prepE ⟨3, 1, [0, 1, 2], VoteV.zero⟩ 2 1 0 = 0 := by decide
theorem t13a' : prepS ⟨3, 1, [0, 1, 2], VoteV.zero⟩ 2 1 0 = s13a := by rw [prepS, if_pos t13a]; rfl
theorem t13b : prepE s13a 2 0 3 = 7 := by decide
theorem t13b' : prepS s13a 2 0 3 = s13a := by rw [prepS, if_neg (by rw [t13b]; decide)]
theorem n13 : nextC 1 [0, 1, 2] 2 [0, 2] 3 := by decide
theorem t13c : accE s13a 2 [0, 2] 1 0 true = 8 := by decide
theorem t13c' : accS s13a 2 [0, 2] 1 0 true = s13a := by rw [accS, if_neg (by rw [t13c]; decide)]
theorem t13d : accE s13a 2 [0, 2] 1 0 false = 0 := by decide
theorem t13d' : accS s13a 2 [0, 2] 1 0 false = s13b := by rw [accS, if_pos t13d]; rfl
theorem t13e : lrnE s13b 2 [0, 2] = 0 := by decide
theorem t13e' : lrnS s13b 2 [0, 2] = s13c := by rw [lrnS, if_pos t13e]; rfl
theorem t13f : lrnE s13c 2 [0, 2] = 7 := by decide
theorem t13f' : lrnS s13c 2 [0, 2] = s13c := by rw [lrnS, if_neg (by rw [t13f]; decide)]
theorem p13a : prepV ⟨3, 1, [0, 1, 2], VoteV.zero⟩ 2 1 0 = ⟨1, 0, 0, 0, false, 0, []⟩ := by rw [prepV, if_pos t13a, t13a']; rfl
theorem p13b : prepV s13a 2 0 3 = VoteV.zero := by rw [prepV, if_neg (by rw [t13b]; decide)]

theorem row_lit (w : World) (L : List Int) (n : Nat) (hn : L.length = n) (hm : n ≤ maxLen) : RowI (w.alloc (.cells (intCells L).toArray 3)) (.slice (some ⟨w.heap.size, 0, none⟩) n n) L := by
  subst hn
  refine ⟨_, _, rfl, Nat.le_refl _, hm, fun e => by simp at e, fun _ => ⟨_, _, _, rfl, heap_alloc_new w _, fun j hj => ?_⟩⟩
  rw [Nat.zero_add, cell_of_row _ _ _ _ _ _ (heap_alloc_new w _), List.getElem?_toArray]
  simp [intCells, hj]

end Go.Proofs.Ytiidmiioegdfaaa
