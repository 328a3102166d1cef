/-
  AN ACCEPTOR AS A LAW HAS IT: its blocks lie from n on, what was there below n is as it was; each call by contract, what else stands; told. For acceptors as they may be.
-/
import Derived.Test.YtaaffceanjpmbaaAccD
import Derived.Test.YtaaffceanjpmbaaAccE
namespace Go.Proofs.Ytaaffceanjpmbaa
open Go.RowKit

/-- All blocks but acceptors stand. -/
structure KAc (w w' : World) : Prop where
  size : w.heap.size ≤ w'.heap.size
  same : ∀ (b : Nat) (cs : Array Value) (T : TypeId), w.heap[b]? = some (.cells cs T (0, 0)) → T ≠ 63 → w'.heap[b]? = some (.cells cs T (0, 0))
theorem KAc.of {w w' : World} (h : Below w.heap.size w w') : KAc w w' := ⟨h.size, fun b _ _ hb _ => (h.block b (lt_of_block hb)).trans hb⟩
theorem KAc.trans {u v w : World} (h : KAc u v) (k : KAc v w) : KAc u w := ⟨Nat.le_trans h.size k.size, fun b cs T hb hT => k.same b cs T (h.same b cs T hb hT) hT⟩
theorem KAc.only {w w' : World} {p : Nat} {s : AccV} (hA : Acc 63 w p s) (ho : Only (· = p) w w') : KAc w w' := ⟨ho.size, fun b cs T hb hT => (ho.block b (lt_of_block hb) fun e => by
  subst e
  obtain ⟨cs', h⟩ := hA.kind
  rw [h] at hb
  simp only [Option.some.injEq, Obj.cells.injEq] at hb
  exact hT hb.2.1.symm).trans hb⟩
theorem KAc.row {w w' : World} (h : KAc w w') {v : Value} {L : List Int} (hr : RowI w v L) : RowI w' v L := by
  obtain ⟨ao, cap, rfl, h1, h2, h3, h4⟩ := hr
  refine ⟨ao, cap, rfl, h1, h2, h3, fun hl => ?_⟩
  obtain ⟨b, off, cs, rfl, hb, hc⟩ := h4 hl
  have e := h.same b cs _ hb (by decide)
  exact ⟨b, off, cs, rfl, e, fun j hj => (World.cell?_of_block (a := ⟨b, off + j, Option.none⟩) (e.trans hb.symm)).trans (hc j hj)⟩
theorem KAc.ch {w w' : World} (h : KAc w w') {b : Nat} {ep : Int} {v : Value} (hc : ChT w b ep v) : ChT w' b ep v := h.same b _ _ hc (by decide)
theorem KAc.vot {w w' : World} (h : KAc w w') {b : Nat} {v : VoteV} {cv : Value} (hc : VotB w b v cv) : VotB w' b v cv := h.same b _ _ hc (by decide)

/-- Acceptor p, from block n on, in state s; what was there below n in w0 is as it was. -/
structure AO (n : Nat) (w0 : World) (p : Nat) (s : AccV) (w : World) : Prop where
  a : Acc 63 w p s
  low : n ≤ p
  size : n ≤ w.heap.size
  bel : Below n w0 w
  ok : s.ok
section
variable {n p : Nat} {w0 w w' : World} {s : AccV}
theorem AO.on (h : AO n w0 p s w) (hb : Below w.heap.size w w') : AO n w0 p s w' := ⟨h.a.on hb, h.low, Nat.le_trans h.size hb.size, h.bel.trans (hb.mono h.size), h.ok⟩
theorem AO.drew (h : AO n w0 p s w) : AO n w0 p s w.drew := h.on (Below.drew (Below.refl _ _))
theorem AO.turn {s' : AccV} (h : AO n w0 p s w) (ha : Acc 63 w' p s') (ho : Only (· = p) w w') (hok : s'.ok) : AO n w0 p s' w' ∧ KAc w w' :=
  ⟨⟨ha, h.low, Nat.le_trans h.size ho.size, ho.below h.bel (fun x hx => by have := h.low; omega) h.size, hok⟩, .only h.a ho⟩
theorem ao_new (m : Nat) (h1 : 1 ≤ m) (h5 : m ≤ 5) (hb : Below n w0 w) (hn : n ≤ w.heap.size) : Calls Try.prog 9 #[.int .i64 m] w fun e w' => ∃ p, e = .returned (.tuple #[.pointer (some ⟨p, 0, none⟩), .int .i64 0]) ∧ Hid (AO n w0 p (AccV.first m) w' ∧ Below w.heap.size w w') :=
  (anew_in m h1 h5 w).mono fun _ _ ⟨p, he, hp, ha, hb'⟩ => ⟨p, he, ⟨ha, Nat.le_trans hn hp, Nat.le_trans hn hb'.size, hb.trans (hb'.mono hn), AccV.ok_first m h1 h5⟩, hb'⟩
theorem ao_prep (h : AO n w0 p s w) (ep r k : Int) {s' : AccV} {V : VoteV} {err : Int} (hs : prepS s ep r k = s') (hv : prepV s ep r k = V) (herr : prepE s ep r k = err) :
    Calls Try.prog 10 #[.pointer (some ⟨p, 0, none⟩), .int .i64 ep, .agg #[.int .i64 r, .int .i64 k]] w fun e w' => ∃ a m c, e = .returned (.tuple #[.agg #[.int .i64 V.pr, .int .i64 V.pn, .int .i64 V.ar, .int .i64 V.an, .bool V.has, .int .i64 V.ce, .slice a m c], .int .i64 err]) ∧ Hid (RowI w' (.slice a m c) V.C ∧ AO n w0 p s' w' ∧ KAc w w') :=
  (aprep_r h.a h.ok.wrap (by have := h.ok.len; omega) ep r k hs hv herr).mono fun _ _ ⟨a, c, he, hh⟩ => ⟨a, _, c, he, hh.out.1, h.turn hh.out.2.1 hh.out.2.2 (hs ▸ AccV.ok_prep h.ok ep r k)⟩
theorem ao_acc (h : AO n w0 p s w) (ec : Int) (vv : Value) (L : List Int) (B : Nat) (hI : Ints w B vv L) (hB : B ≤ w.heap.size) (hlim : L.length ≤ 1000000) (r k : Int) (veto : Bool) {s' : AccV} {err : Int} (hs : accS s ec L r k veto = s') (herr : accE s ec L r k veto = err) :
    Calls Try.prog 16 #[.pointer (some ⟨p, 0, none⟩), .agg #[.int .i64 ec, vv], .agg #[.int .i64 r, .int .i64 k], .bool veto] w fun e w' => e = .returned (.int .i64 err) ∧ Hid (AO n w0 p s' w' ∧ KAc w w') :=
  (aacc_r h.a h.ok.wrap ec vv L B hI hB hlim r k veto hs herr).mono fun _ _ ⟨he, hh⟩ => ⟨he, h.turn hh.out.1 hh.out.2 (hs ▸ AccV.ok_acc h.ok ec L r k veto)⟩
theorem ao_lrn (h : AO n w0 p s w) (ec : Int) (vv : Value) (L : List Int) (B : Nat) (hI : Ints w B vv L) (hB : B ≤ w.heap.size) (hlim : L.length ≤ 1000000) {s' : AccV} {err : Int} (hs : lrnS s ec L = s') (herr : lrnE s ec L = err) :
    Calls Try.prog 11 #[.pointer (some ⟨p, 0, none⟩), .agg #[.int .i64 ec, vv]] w fun e w' => e = .returned (.int .i64 err) ∧ Hid (AO n w0 p s' w' ∧ KAc w w') :=
  (alrn_r h.a ec vv L B hI hB hlim hs herr).mono fun _ _ ⟨he, hh⟩ => ⟨he, h.turn hh.out.1 hh.out.2 (hs ▸ AccV.ok_lrn h.ok ec L)⟩
theorem ao_known (h : AO n w0 p s w) : Calls Try.prog 14 #[.pointer (some ⟨p, 0, none⟩)] w fun e w' => ∃ a m c, e = .returned (.agg #[.int .i64 s.ke, .slice a m c]) ∧ Hid (RowI w' (.slice a m c) s.K ∧ AO n w0 p s w' ∧ Below w.heap.size w w') := by
  obtain ⟨kv, cv, ha⟩ := h.a
  exact (aknown_r ha (by have := h.ok.len; omega)).mono fun _ _ ⟨a, c, he, hh⟩ => ⟨a, _, c, he, hh.out.1, h.on hh.out.2, hh.out.2⟩
theorem ao_vote (h : AO n w0 p s w) : Calls Try.prog 12 #[.pointer (some ⟨p, 0, none⟩)] w fun e w' => ∃ a m c, e = .returned (.agg #[.int .i64 s.v.pr, .int .i64 s.v.pn, .int .i64 s.v.ar, .int .i64 s.v.an, .bool s.v.has, .int .i64 s.v.ce, .slice a m c]) ∧ Hid (RowI w' (.slice a m c) s.v.C ∧ AO n w0 p s w' ∧ Below w.heap.size w w') := by
  obtain ⟨kv, cv, ha⟩ := h.a
  exact (avote_r ha (by have := h.ok.len; omega)).mono fun _ _ ⟨a, c, he, hh⟩ => ⟨a, _, c, he, hh.out.1, h.on hh.out.2, hh.out.2⟩
theorem ao_bytes (h : AO n w0 p s w) : Calls Try.prog 17 #[.pointer (some ⟨p, 0, none⟩)] w fun e w' => ∃ a m c, e = .returned (.slice a m c) ∧ Hid (Byt w' w'.heap.size (.slice a m c) s.bytes ∧ AO n w0 p s w' ∧ Below w.heap.size w w') :=
  (abytes_r h.a h.ok).mono fun _ _ ⟨v, he, ho, hb⟩ => by
    obtain ⟨a, c, rfl⟩ := own_shape ho
    exact ⟨a, _, c, he, byt_own ho (Nat.le_refl _), h.on hb, hb⟩
end

/-- told's acceptor: of three nodes; one ballot promised; a chain accepted; learnt. -/
def s13a : AccV := ⟨3, 1, [0, 1, 2], ⟨1, 0, 0, 0, false, 0, []⟩⟩
def s13b : AccV := ⟨3, 1, [0, 1, 2], ⟨1, 0, 1, 0, true, 2, [0, 2]⟩⟩
def s13c : AccV := ⟨3, 2, [0, 2], VoteV.zero⟩
theorem first3 : AccV.first 3 = ⟨3, 1, [0, 1, 2], VoteV.zero⟩ := rfl
theorem t13a : prepE ⟨3, 1, [0, 1, 2], VoteV.zero⟩ 2 1 0 = 0 := by decide
theorem t13a' : prepS ⟨3, 1, [0, 1, 2], VoteV.zero⟩ 2 1 0 = s13a := by rw [prepS, if_pos t13a]; rfl
theorem t13b : prepE s13a 2 0 3 = 7 := by decide
theorem t13b' : prepS s13a 2 0 3 = s13a := by rw [prepS, if_neg (by rw [t13b]; decide)]
theorem n13 : nextC 1 [0, 1, 2] 2 [0, 2] 3 := by decide
theorem t13c : accE s13a 2 [0, 2] 1 0 true = 8 := by decide
theorem t13c' : accS s13a 2 [0, 2] 1 0 true = s13a := by rw [accS, if_neg (by rw [t13c]; decide)]
theorem t13d : accE s13a 2 [0, 2] 1 0 false = 0 := by decide
theorem t13d' : accS s13a 2 [0, 2] 1 0 false = s13b := by rw [accS, if_pos t13d]; rfl
theorem t13e : lrnE s13b 2 [0, 2] = 0 := by decide
theorem t13e' : lrnS s13b 2 [0, 2] = s13c := by rw [lrnS, if_pos t13e]; rfl
theorem t13f : lrnE s13c 2 [0, 2] = 7 := by decide
theorem t13f' : lrnS s13c 2 [0, 2] = s13c := by rw [lrnS, if_neg (by rw [t13f]; decide)]
theorem p13a : prepV ⟨3, 1, [0, 1, 2], VoteV.zero⟩ 2 1 0 = ⟨1, 0, 0, 0, false, 0, []⟩ := by rw [prepV, if_pos t13a, t13a']; rfl
theorem p13b : prepV s13a 2 0 3 = VoteV.zero := by rw [prepV, if_neg (by rw [t13b]; decide)]

theorem row_lit (w : World) (L : List Int) (n : Nat) (hn : L.length = n) (hm : n ≤ maxLen) : RowI (w.alloc (.cells (intCells L).toArray 3)) (.slice (some ⟨w.heap.size, 0, none⟩) n n) L := by
  subst hn
  refine ⟨_, _, rfl, Nat.le_refl _, hm, fun e => by simp at e, fun _ => ⟨_, _, _, rfl, heap_alloc_new w _, fun j hj => ?_⟩⟩
  rw [Nat.zero_add, cell_of_row _ _ _ _ _ _ (heap_alloc_new w _), List.getElem?_toArray]
  simp [intCells, hj]

set_option maxHeartbeats 4000000 in
set_option maxRecDepth 100000 in
theorem told13_any (w : World) : Calls Try.prog 15 #[] w fun e w' => e = .returned (.bool true) ∧ Below w.heap.size w w' := by
  obtain ⟨n, hn⟩ : ∃ n, n = w.heap.size := ⟨_, rfl⟩
  rw [← hn]
  have HN : Hid (Calls Try.prog 9 #[.int .i64 3] w fun e w' => ∃ p, e = .returned (.tuple #[.pointer (some ⟨p, 0, none⟩), .int .i64 0]) ∧ Hid (AO n w p ⟨3, 1, [0, 1, 2], VoteV.zero⟩ w' ∧ Below w.heap.size w w')) := by
    rw [← first3]; exact ao_new 3 (by decide) (by decide) (Below.refl _ _) (by omega)
  have HP1 : Hid (∀ u p, AO n w p ⟨3, 1, [0, 1, 2], VoteV.zero⟩ u → Calls Try.prog 10 #[.pointer (some ⟨p, 0, none⟩), .int .i64 2, .agg #[.int .i64 1, .int .i64 0]] u fun e w' => ∃ a m c, e = .returned (.tuple #[.agg #[.int .i64 1, .int .i64 0, .int .i64 0, .int .i64 0, .bool false, .int .i64 0, .slice a m c], .int .i64 0]) ∧ Hid (AO n w p s13a w')) :=
    fun u p hu => (ao_prep hu 2 1 0 t13a' p13a t13a).mono fun _ _ ⟨a, m, c, he, hh⟩ => ⟨a, m, c, he, hh.out.2.1⟩
  have HP2 : Hid (∀ u p, AO n w p s13a u → Calls Try.prog 10 #[.pointer (some ⟨p, 0, none⟩), .int .i64 2, .agg #[.int .i64 0, .int .i64 3]] u fun e w' => ∃ a m c, e = .returned (.tuple #[.agg #[.int .i64 0, .int .i64 0, .int .i64 0, .int .i64 0, .bool false, .int .i64 0, .slice a m c], .int .i64 7]) ∧ Hid (AO n w p s13a w')) :=
    fun u p hu => (ao_prep hu 2 0 3 t13b' p13b t13b).mono fun _ _ ⟨a, m, c, he, hh⟩ => ⟨a, m, c, he, hh.out.2.1⟩
  have HA1 : Hid (∀ u p v, AO n w p s13a u → RowI u v [0, 2] → Calls Try.prog 16 #[.pointer (some ⟨p, 0, none⟩), .agg #[.int .i64 2, v], .agg #[.int .i64 1, .int .i64 0], .bool true] u fun e w' => e = .returned (.int .i64 8) ∧ Hid (AO n w p s13a w' ∧ KAc u w')) :=
    fun u p v hu hv => ao_acc hu 2 v [0, 2] _ hv.ints (Nat.le_refl _) (by decide) 1 0 true t13c' t13c
  have HA2 : Hid (∀ u p v, AO n w p s13a u → RowI u v [0, 2] → Calls Try.prog 16 #[.pointer (some ⟨p, 0, none⟩), .agg #[.int .i64 2, v], .agg #[.int .i64 1, .int .i64 0], .bool false] u fun e w' => e = .returned (.int .i64 0) ∧ Hid (AO n w p s13b w' ∧ KAc u w')) :=
    fun u p v hu hv => ao_acc hu 2 v [0, 2] _ hv.ints (Nat.le_refl _) (by decide) 1 0 false t13d' t13d
  have HV1 : Hid (∀ u p, AO n w p s13b u → Calls Try.prog 12 #[.pointer (some ⟨p, 0, none⟩)] u fun e w' => ∃ a m c, e = .returned (.agg #[.int .i64 1, .int .i64 0, .int .i64 1, .int .i64 0, .bool true, .int .i64 2, .slice a m c]) ∧ Hid (AO n w p s13b w' ∧ KAc u w')) :=
    fun u p hu => (ao_vote hu).mono fun _ _ ⟨a, m, c, he, hh⟩ => ⟨a, m, c, he, hh.out.2.1, .of hh.out.2.2⟩
  have HL1 : Hid (∀ u p v, AO n w p s13b u → RowI u v [0, 2] → Calls Try.prog 11 #[.pointer (some ⟨p, 0, none⟩), .agg #[.int .i64 2, v]] u fun e w' => e = .returned (.int .i64 0) ∧ Hid (AO n w p s13c w' ∧ KAc u w')) :=
    fun u p v hu hv => ao_lrn hu 2 v [0, 2] _ hv.ints (Nat.le_refl _) (by decide) t13e' t13e
  have HK : Hid (∀ u p, AO n w p s13c u → Calls Try.prog 14 #[.pointer (some ⟨p, 0, none⟩)] u fun e w' => ∃ a m c, e = .returned (.agg #[.int .i64 2, .slice a m c]) ∧ Hid (AO n w p s13c w' ∧ KAc u w')) :=
    fun u p hu => (ao_known hu).mono fun _ _ ⟨a, m, c, he, hh⟩ => ⟨a, m, c, he, hh.out.2.1, .of hh.out.2.2⟩
  have HV2 : Hid (∀ u p, AO n w p s13c u → Calls Try.prog 12 #[.pointer (some ⟨p, 0, none⟩)] u fun e w' => ∃ a m c, e = .returned (.agg #[.int .i64 0, .int .i64 0, .int .i64 0, .int .i64 0, .bool false, .int .i64 0, .slice a m c]) ∧ Hid (AO n w p s13c w' ∧ KAc u w')) :=
    fun u p hu => (ao_vote hu).mono fun _ _ ⟨a, m, c, he, hh⟩ => ⟨a, m, c, he, hh.out.2.1, .of hh.out.2.2⟩
  have HL2 : Hid (∀ u p v, AO n w p s13c u → RowI u v [0, 2] → Calls Try.prog 11 #[.pointer (some ⟨p, 0, none⟩), .agg #[.int .i64 2, v]] u fun e w' => e = .returned (.int .i64 7) ∧ Hid (AO n w p s13c w' ∧ KAc u w')) :=
    fun u p v hu hv => ao_lrn hu 2 v [0, 2] _ hv.ints (Nat.le_refl _) (by decide) t13f' t13f
  have kf1 : ∀ (u : World) (ep : Int) (a : Option Addr) (m c : Nat), (Instr.field 28 (.agg #[.int .i64 ep, .slice a m c]) 0).run Try.prog u = .ok (.int .i64 ep) u := fun u ep a m c => by kernel_rfl
  have kf2 : ∀ (u : World) (x0 x1 x2 x3 x5 : Int) (b : Bool) (a : Option Addr) (m c : Nat), (Instr.field 32 (.agg #[.int .i64 x0, .int .i64 x1, .int .i64 x2, .int .i64 x3, .bool b, .int .i64 x5, .slice a m c]) 2).run Try.prog u = .ok (.bool b) u := fun u x0 x1 x2 x3 x5 b a m c => by kernel_rfl
  clear hn
  go_enter Try.func15, Try.ntmps15
  go_wp2_with fail
  refine HN.out.mono ?_
  rintro e w1 ⟨p, rfl, H1⟩
  go_wp2_with fail
  refine (HP1.out _ _ H1.out.1).mono ?_
  rintro e w2 ⟨a2, m2, c2, rfl, H2⟩
  have A2 := Lib.hid (H2.out.on (w' := w2.alloc (.cells #[.int .i64 1, .int .i64 0, .int .i64 0, .int .i64 0, .bool false, .int .i64 0, .slice a2 m2 c2] 32)) ((Below.refl _ _).alloc (Nat.le_refl _) _))
  go_wp2_with fail
  refine (HP2.out _ _ A2.out).mono ?_
  rintro e w3 ⟨a3, m3, c3, rfl, H3⟩
  obtain ⟨y4, hy4⟩ : ∃ y, y = w3.alloc (.cells #[.int .i64 0, .int .i64 0, .int .i64 0, .int .i64 0, .bool false, .int .i64 0, .slice a3 m3 c3] 32) := ⟨_, rfl⟩
  have a4 := H3.out.on (w' := y4) (by rw [hy4]; exact (Below.refl _ _).alloc (Nat.le_refl _) _)
  obtain ⟨y5, hy5⟩ : ∃ y, y = y4.alloc (.cells #[.int .i64 0, .int .i64 2] 3) := ⟨_, rfl⟩
  have a5 := a4.on (w' := y5) (by rw [hy5]; exact (Below.refl _ _).alloc (Nat.le_refl _) _)
  have r5 : RowI y5 (.slice (some ⟨y4.heap.size, 0, none⟩) 2 2) [0, 2] := by rw [hy5]; exact row_lit y4 [0, 2] 2 rfl (by decide)
  obtain ⟨y6, hy6⟩ : ∃ y, y = y5.alloc (.cells #[.int .i64 2, .slice (some ⟨y4.heap.size, 0, none⟩) 2 2] 28) := ⟨_, rfl⟩
  have b6 : Below y5.heap.size y5 y6 := by rw [hy6]; exact (Below.refl _ _).alloc (Nat.le_refl _) _
  obtain ⟨q, hq⟩ : ∃ q, q = y5.heap.size := ⟨_, rfl⟩
  obtain ⟨qr, hqr⟩ : ∃ q, q = y4.heap.size := ⟨_, rfl⟩
  have c6 : ChT y6 q 2 (.slice (some ⟨y4.heap.size, 0, none⟩) 2 2) := by rw [hy6, hq]; exact ChT.fresh y5 _ _
  have A6 := Lib.hid (a5.on b6)
  have R6 := Lib.hid (r5.on b6)
  rw [← hqr] at c6 R6 hy6
  have C6 := Lib.hid c6
  have HY : Hid (y6 = ((w3.alloc (.cells #[.int .i64 0, .int .i64 0, .int .i64 0, .int .i64 0, .bool false, .int .i64 0, .slice a3 m3 c3] 32)).alloc (.cells #[.int .i64 0, .int .i64 2] 3)).alloc (.cells #[.int .i64 2, .slice (some ⟨qr, 0, none⟩) 2 2] 28)) := by show _ = _; rw [hy6, hy5, hy4]
  have HQ : Hid (q = w3.heap.size + 2 ∧ qr = w3.heap.size + 1) := ⟨by rw [hq, hy5, hy4]; simp, by rw [hqr, hy4]; simp⟩
  have HQ3 : Hid (q = qr + 1) := by show _ = _; rw [HQ.out.1, HQ.out.2]
  obtain ⟨g0, g1, _, _⟩ := c6.cells
  rw [HY.out, HQ.out.1, HQ.out.2] at g0 g1
  clear hy4 hy5 hy6 a4 a5 r5 b6 c6 hq hqr A2 H1 H2 H3
  go_wp2_with fail
  rw [← HQ.out.2, ← HY.out]
  refine (HA1.out _ _ _ A6.out R6.out).mono ?_
  rintro e w7 ⟨rfl, H7⟩
  have R7 := Lib.hid (H7.out.2.row R6.out)
  have C7 := Lib.hid (H7.out.2.ch C6.out)
  clear g0 g1 A6 R6 C6
  rw [HQ3.out] at C7
  obtain ⟨g0, g1, _, _⟩ := C7.out.cells
  go_wp2_with fail
  refine (HA2.out _ _ _ H7.out.1 R7.out).mono ?_
  rintro e w8 ⟨rfl, H8⟩
  have R8 := Lib.hid (H8.out.2.row R7.out)
  have C8 := Lib.hid (H8.out.2.ch C7.out)
  clear g0 g1 R7 C7
  go_wp2_with fail
  refine (HV1.out _ _ H8.out.1).mono ?_
  rintro e w9 ⟨a9, m9, c9, rfl, H9⟩
  obtain ⟨yA, hyA⟩ : ∃ y, y = w9.alloc (.cells #[.int .i64 1, .int .i64 0, .int .i64 1, .int .i64 0, .bool true, .int .i64 2, .slice a9 m9 c9] 32) := ⟨_, rfl⟩
  have bA : Below w9.heap.size w9 yA := by rw [hyA]; exact (Below.refl _ _).alloc (Nat.le_refl _) _
  have RA := Lib.hid ((H9.out.2.row R8.out).on bA)
  have CA := Lib.hid ((H9.out.2.ch C8.out).keep bA (H9.out.2.ch C8.out).lt)
  have AA := Lib.hid (H9.out.1.on bA)
  have VA : Hid (VotB yA w9.heap.size ⟨1, 0, 1, 0, true, 2, []⟩ (.slice a9 m9 c9)) := by show VotB _ _ _ _; rw [hyA]; exact VotB.fresh w9 ⟨1, 0, 1, 0, true, 2, []⟩ _
  have HYA := Lib.hid hyA
  obtain ⟨g0, g1, _, _⟩ := CA.out.cells
  rw [hyA] at g0 g1
  clear bA hyA R8 C8
  go_wp2_with fail
  rw [← HYA.out]
  refine (HL1.out _ _ _ AA.out RA.out).mono ?_
  rintro e wB ⟨rfl, HB⟩
  have RB := Lib.hid (HB.out.2.row RA.out)
  have CB := Lib.hid (HB.out.2.ch CA.out)
  have VB := Lib.hid (HB.out.2.vot VA.out)
  clear g0 g1 RA CA VA
  obtain ⟨_, _, _, _, v4, v5, _⟩ := VB.out.cells
  dsimp only at v4 v5
  go_wp2_with fail
  refine (HK.out _ _ HB.out.1).mono ?_
  rintro e wC ⟨aC, mC, cC, rfl, HC⟩
  have RC := Lib.hid (HC.out.2.row RB.out)
  have CC := Lib.hid (HC.out.2.ch CB.out)
  clear v4 v5 VB RB CB
  go_wp2_with fail
  refine (HV2.out _ _ HC.out.1).mono ?_
  rintro e wD ⟨aD, mD, cD, rfl, HD⟩
  have RD := Lib.hid (HD.out.2.row RC.out)
  have CD := Lib.hid (HD.out.2.ch CC.out)
  clear RC CC
  obtain ⟨g0, g1, _, _⟩ := CD.out.cells
  go_wp2_with fail
  refine (HL2.out _ _ _ HD.out.1 RD.out).mono ?_
  rintro e wE ⟨rfl, HE⟩
  go_wp2
  go_returns
  exact ⟨rfl, HE.out.1.bel⟩
end Go.Proofs.Ytaaffceanjpmbaa
