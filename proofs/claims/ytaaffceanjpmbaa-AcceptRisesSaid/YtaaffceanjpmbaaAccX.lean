/-
  AN ACCEPTOR BESIDE THE REFERENCE's, AND BESIDE ANOTHER ONE, as laws have them: each call by contract, what stands; a step's block. For acceptors as they may be.
-/
import Derived.Test.YtaaffceanjpmbaaAccT
import Derived.Test.YtaaffceanjpmbaaAccR
import Derived.Test.YtaaffceanjpmbaaAccArgs
namespace Go.Proofs.Ytaaffceanjpmbaa
open Go.RowKit

/-- All blocks but acceptors, the program's and the reference's, stand. -/
structure KC (w w' : World) : Prop where
  size : w.heap.size ≤ w'.heap.size
  same : ∀ (b : Nat) (cs : Array Value) (T : TypeId), w.heap[b]? = some (.cells cs T (0, 0)) → T ≠ 63 → T ≠ 50 → w'.heap[b]? = some (.cells cs T (0, 0))
theorem KC.of {w w' : World} (h : Below w.heap.size w w') : KC w w' := ⟨h.size, fun b _ _ hb _ _ => (h.block b (lt_of_block hb)).trans hb⟩
theorem KC.trans {u v w : World} (h : KC u v) (k : KC v w) : KC u w := ⟨Nat.le_trans h.size k.size, fun b cs T hb h1 h2 => k.same b cs T (h.same b cs T hb h1 h2) h1 h2⟩
theorem KC.only {T0 : TypeId} (hT : T0 = 63 ∨ T0 = 50) {w w' : World} {p : Nat} {s : AccV} (hA : Acc T0 w p s) (ho : Only (· = p) w w') : KC w w' := ⟨ho.size, fun b cs T hb h1 h2 => (ho.block b (lt_of_block hb) fun e => by
  subst e
  obtain ⟨cs', h⟩ := hA.kind
  rw [h] at hb
  simp only [Option.some.injEq, Obj.cells.injEq] at hb
  rcases hT with rfl | rfl
  · exact h1 hb.2.1.symm
  · exact h2 hb.2.1.symm).trans hb⟩
theorem KC.row {w w' : World} (h : KC w w') {v : Value} {L : List Int} (hr : RowI w v L) : RowI w' v L := by
  obtain ⟨ao, cap, rfl, h1, h2, h3, h4⟩ := hr
  refine ⟨ao, cap, rfl, h1, h2, h3, fun hl => ?_⟩
  obtain ⟨b, off, cs, rfl, hb, hc⟩ := h4 hl
  have e := h.same b cs _ hb (by decide) (by decide)
  exact ⟨b, off, cs, rfl, e, fun j hj => (World.cell?_of_block (a := ⟨b, off + j, Option.none⟩) (e.trans hb.symm)).trans (hc j hj)⟩
theorem KC.ch {w w' : World} (h : KC w w') {b : Nat} {ep : Int} {v : Value} (hc : ChT w b ep v) : ChT w' b ep v := h.same b _ _ hc (by decide) (by decide)
theorem KC.vot {w w' : World} (h : KC w w') {b : Nat} {v : VoteV} {cv : Value} (hc : VotB w b v cv) : VotB w' b v cv := h.same b _ _ hc (by decide) (by decide)

/-- Block b holds a step. -/
def AOpB (w : World) (b : Nat) (o : AStepV) : Prop := w.heap[b]? = some (.cells #[.int .i64 o.kind, .int .i64 o.epoch, .int .i64 o.r, .int .i64 o.k, .int .i64 o.ec, o.v, .bool o.veto] 52 (0, 0))
theorem AOpB.lt {w : World} {b : Nat} {o : AStepV} (h : AOpB w b o) : b < w.heap.size := lt_of_block h
theorem AOpB.fresh (w : World) (o : AStepV) : AOpB (w.alloc (.cells #[.int .i64 o.kind, .int .i64 o.epoch, .int .i64 o.r, .int .i64 o.k, .int .i64 o.ec, o.v, .bool o.veto] 52)) w.heap.size o := heap_alloc_new w _
theorem AOpB.on {w w' : World} {b : Nat} {o : AStepV} (h : AOpB w b o) (hb : Below w.heap.size w w') : AOpB w' b o := (hb.block b h.lt).trans h
theorem KC.op {w w' : World} (h : KC w w') {b : Nat} {o : AStepV} (hc : AOpB w b o) : AOpB w' b o := h.same b _ _ hc (by decide) (by decide)
theorem AOpB.cells {w : World} {b : Nat} {o : AStepV} (h : AOpB w b o) : w.cell? ⟨b, 0, none⟩ = some (.int .i64 o.kind) ∧ w.cell? ⟨b, 1, none⟩ = some (.int .i64 o.epoch) ∧ w.cell? ⟨b, 2, none⟩ = some (.int .i64 o.r) ∧ w.cell? ⟨b, 3, none⟩ = some (.int .i64 o.k) ∧ w.cell? ⟨b, 4, none⟩ = some (.int .i64 o.ec) ∧ w.cell? ⟨b, 5, none⟩ = some o.v ∧ w.cell? ⟨b, 6, none⟩ = some (.bool o.veto) := by
  have h' : w.heap[b]? = some (.cells #[.int .i64 o.kind, .int .i64 o.epoch, .int .i64 o.r, .int .i64 o.k, .int .i64 o.ec, o.v, .bool o.veto] 52 (0, 0)) := h
  refine ⟨?_, ?_, ?_, ?_, ?_, ?_, ?_⟩ <;> simp [World.cell?, h']

/-- Acceptor p in state s beside the reference's X in state t. -/
structure AX (n : Nat) (w0 : World) (p X : Nat) (s t : AccV) (w : World) : Prop where
  a : AO n w0 p s w
  x : Acc 50 w X t
  low : n ≤ X
  ok : t.ok
section
variable {n p X : Nat} {w0 w w' : World} {s t : AccV}
theorem AX.on (h : AX n w0 p X s t w) (hb : Below w.heap.size w w') : AX n w0 p X s t w' := ⟨h.a.on hb, h.x.on hb, h.low, h.ok⟩
theorem AX.ne (h : AX n w0 p X s t w) : p ≠ X := fun e => by
  obtain ⟨cs, h1⟩ := h.a.a.kind
  obtain ⟨cs', h2⟩ := h.x.kind
  rw [← e, h1] at h2
  simp at h2
theorem AX.prog (h : AX n w0 p X s t w) {s' : AccV} (ha : Acc 63 w' p s') (ho : Only (· = p) w w') (hok : s'.ok) : AX n w0 p X s' t w' ∧ KC w w' := by
  obtain ⟨cs, hk⟩ := h.a.a.kind
  exact ⟨⟨(h.a.turn ha ho hok).1, h.x.beside hk (by decide) (Ne.symm h.ne) ho, h.low, h.ok⟩, .only (.inl rfl) h.a.a ho⟩
theorem AX.ref (h : AX n w0 p X s t w) {t' : AccV} (hx : Acc 50 w' X t') (ho : Only (· = X) w w') (hok : t'.ok) : AX n w0 p X s t' w' ∧ KC w w' := by
  obtain ⟨cs, hk⟩ := h.x.kind
  exact ⟨⟨⟨h.a.a.beside hk (by decide) h.ne ho, h.a.low, Nat.le_trans h.a.size ho.size, ho.below h.a.bel (fun x hx => by have := h.low; omega) h.a.size, h.a.ok⟩, hx, h.low, hok⟩, .only (.inr rfl) h.x ho⟩
theorem ax_prep (h : AX n w0 p X s t w) (ep r k : Int) {s' : AccV} {V : VoteV} {err : Int} (hs : prepS s ep r k = s') (hv : prepV s ep r k = V) (herr : prepE s ep r k = err) :
    Calls Try.prog 10 #[.pointer (some ⟨p, 0, none⟩), .int .i64 ep, .agg #[.int .i64 r, .int .i64 k]] w fun e w' => ∃ a m c, e = .returned (.tuple #[.agg #[.int .i64 V.pr, .int .i64 V.pn, .int .i64 V.ar, .int .i64 V.an, .bool V.has, .int .i64 V.ce, .slice a m c], .int .i64 err]) ∧ Hid (RowI w' (.slice a m c) V.C ∧ AX n w0 p X s' t w' ∧ KC w w') :=
  (aprep_r h.a.a h.a.ok.wrap (by have := h.a.ok.len; omega) ep r k hs hv herr).mono fun _ _ ⟨a, c, he, hh⟩ => ⟨a, _, c, he, hh.out.1, h.prog hh.out.2.1 hh.out.2.2 (hs ▸ AccV.ok_prep h.a.ok ep r k)⟩
theorem ax_acc (h : AX n w0 p X s t w) (ec : Int) (vv : Value) (L : List Int) (B : Nat) (hI : Ints w B vv L) (hB : B ≤ w.heap.size) (hlim : L.length ≤ 1000000) (r k : Int) (veto : Bool) {s' : AccV} {err : Int} (hs : accS s ec L r k veto = s') (herr : accE s ec L r k veto = err) :
    Calls Try.prog 16 #[.pointer (some ⟨p, 0, none⟩), .agg #[.int .i64 ec, vv], .agg #[.int .i64 r, .int .i64 k], .bool veto] w fun e w' => e = .returned (.int .i64 err) ∧ Hid (AX n w0 p X s' t w' ∧ KC w w') :=
  (aacc_r h.a.a h.a.ok.wrap ec vv L B hI hB hlim r k veto hs herr).mono fun _ _ ⟨he, hh⟩ => ⟨he, h.prog hh.out.1 hh.out.2 (hs ▸ AccV.ok_acc h.a.ok ec L r k veto)⟩
theorem ax_lrn (h : AX n w0 p X s t w) (ec : Int) (vv : Value) (L : List Int) (B : Nat) (hI : Ints w B vv L) (hB : B ≤ w.heap.size) (hlim : L.length ≤ 1000000) {s' : AccV} {err : Int} (hs : lrnS s ec L = s') (herr : lrnE s ec L = err) :
    Calls Try.prog 11 #[.pointer (some ⟨p, 0, none⟩), .agg #[.int .i64 ec, vv]] w fun e w' => e = .returned (.int .i64 err) ∧ Hid (AX n w0 p X s' t w' ∧ KC w w') :=
  (alrn_r h.a.a ec vv L B hI hB hlim hs herr).mono fun _ _ ⟨he, hh⟩ => ⟨he, h.prog hh.out.1 hh.out.2 (hs ▸ AccV.ok_lrn h.a.ok ec L)⟩
theorem ax_rprep (h : AX n w0 p X s t w) (ep r k : Int) (hep : ep ≤ 9223372036854775807) {t' : AccV} {V : VoteV} {err : Int} (hs : prepS t ep r k = t') (hv : prepV t ep r k = V) (herr : prepE t ep r k = err) :
    Calls Try.prog 19 #[.pointer (some ⟨X, 0, none⟩), .int .i64 ep, .agg #[.int .i64 r, .int .i64 k]] w fun e w' => ∃ a m c, e = .returned (.tuple #[.agg #[.int .i64 V.pr, .int .i64 V.pn, .int .i64 V.ar, .int .i64 V.an, .bool V.has, .int .i64 V.ce, .slice a m c], .int .i64 err]) ∧ Hid (RowI w' (.slice a m c) V.C ∧ AX n w0 p X s t' w' ∧ KC w w') :=
  (raprep_r h.x h.ok.may.1 ep r k hep hs hv herr).mono fun _ _ ⟨a, m, c, he, hh⟩ => ⟨a, m, c, he, hh.out.1, h.ref hh.out.2.1 hh.out.2.2 (hs ▸ AccV.ok_prep h.ok ep r k)⟩
theorem ax_racc (h : AX n w0 p X s t w) (ec : Int) (hec : ec ≤ 9223372036854775807) (vv : Value) (L : List Int) (B : Nat) (hI : Ints w B vv L) (hB : B ≤ w.heap.size) (hlim : L.length ≤ 1000000) (r k : Int) (veto : Bool) {t' : AccV} {err : Int} (hs : accS t ec L r k veto = t') (herr : accE t ec L r k veto = err) :
    Calls Try.prog 21 #[.pointer (some ⟨X, 0, none⟩), .agg #[.int .i64 ec, vv], .agg #[.int .i64 r, .int .i64 k], .bool veto] w fun e w' => e = .returned (.int .i64 err) ∧ Hid (AX n w0 p X s t' w' ∧ KC w w') :=
  (raacc_r h.x h.ok.may.1 (by have := h.ok.len; omega) ec hec vv L B hI hB hlim r k veto hs herr).mono fun _ _ ⟨he, hh⟩ => ⟨he, h.ref hh.out.1 hh.out.2 (hs ▸ AccV.ok_acc h.ok ec L r k veto)⟩
theorem ax_rlrn (h : AX n w0 p X s t w) (ec : Int) (vv : Value) (L : List Int) (B : Nat) (hI : Ints w B vv L) (hB : B ≤ w.heap.size) (hlim : L.length ≤ 1000000) {t' : AccV} {err : Int} (hs : lrnS t ec L = t') (herr : lrnE t ec L = err) :
    Calls Try.prog 22 #[.pointer (some ⟨X, 0, none⟩), .agg #[.int .i64 ec, vv]] w fun e w' => e = .returned (.int .i64 err) ∧ Hid (AX n w0 p X s t' w' ∧ KC w w') :=
  (ralrn_r h.x ec vv L B hI hB hlim hs herr).mono fun _ _ ⟨he, hh⟩ => ⟨he, h.ref hh.out.1 hh.out.2 (hs ▸ AccV.ok_lrn h.ok ec L)⟩
end

/-- Acceptor p in state s beside another one, q in state t. -/
structure AY (n : Nat) (w0 : World) (p q : Nat) (s t : AccV) (w : World) : Prop where
  a : AO n w0 p s w
  b : AO n w0 q t w
  ne : p ≠ q
section
variable {n p q : Nat} {w0 w w' : World} {s t : AccV}
theorem AY.on (h : AY n w0 p q s t w) (hb : Below w.heap.size w w') : AY n w0 p q s t w' := ⟨h.a.on hb, h.b.on hb, h.ne⟩
theorem AY.symm (h : AY n w0 p q s t w) : AY n w0 q p t s w := ⟨h.b, h.a, Ne.symm h.ne⟩
theorem AY.turn (h : AY n w0 p q s t w) {s' : AccV} (ha : Acc 63 w' p s') (ho : Only (· = p) w w') (hok : s'.ok) : AY n w0 p q s' t w' ∧ KC w w' := by
  obtain ⟨cs, hk⟩ := h.a.a.kind
  exact ⟨⟨(h.a.turn ha ho hok).1, ⟨h.b.a.beside hk (by decide) (Ne.symm h.ne) ho, h.b.low, Nat.le_trans h.b.size ho.size, (h.a.turn ha ho hok).1.bel, h.b.ok⟩, h.ne⟩, .only (.inl rfl) h.a.a ho⟩
theorem ay_prep (h : AY n w0 p q s t w) (ep r k : Int) {s' : AccV} {V : VoteV} {err : Int} (hs : prepS s ep r k = s') (hv : prepV s ep r k = V) (herr : prepE s ep r k = err) :
    Calls Try.prog 10 #[.pointer (some ⟨p, 0, none⟩), .int .i64 ep, .agg #[.int .i64 r, .int .i64 k]] w fun e w' => ∃ a m c, e = .returned (.tuple #[.agg #[.int .i64 V.pr, .int .i64 V.pn, .int .i64 V.ar, .int .i64 V.an, .bool V.has, .int .i64 V.ce, .slice a m c], .int .i64 err]) ∧ Hid (RowI w' (.slice a m c) V.C ∧ AY n w0 p q s' t w' ∧ KC w w') :=
  (aprep_r h.a.a h.a.ok.wrap (by have := h.a.ok.len; omega) ep r k hs hv herr).mono fun _ _ ⟨a, c, he, hh⟩ => ⟨a, _, c, he, hh.out.1, h.turn hh.out.2.1 hh.out.2.2 (hs ▸ AccV.ok_prep h.a.ok ep r k)⟩
theorem ay_acc (h : AY n w0 p q s t w) (ec : Int) (vv : Value) (L : List Int) (B : Nat) (hI : Ints w B vv L) (hB : B ≤ w.heap.size) (hlim : L.length ≤ 1000000) (r k : Int) (veto : Bool) {s' : AccV} {err : Int} (hs : accS s ec L r k veto = s') (herr : accE s ec L r k veto = err) :
    Calls Try.prog 16 #[.pointer (some ⟨p, 0, none⟩), .agg #[.int .i64 ec, vv], .agg #[.int .i64 r, .int .i64 k], .bool veto] w fun e w' => e = .returned (.int .i64 err) ∧ Hid (AY n w0 p q s' t w' ∧ KC w w') :=
  (aacc_r h.a.a h.a.ok.wrap ec vv L B hI hB hlim r k veto hs herr).mono fun _ _ ⟨he, hh⟩ => ⟨he, h.turn hh.out.1 hh.out.2 (hs ▸ AccV.ok_acc h.a.ok ec L r k veto)⟩
theorem ay_lrn (h : AY n w0 p q s t w) (ec : Int) (vv : Value) (L : List Int) (B : Nat) (hI : Ints w B vv L) (hB : B ≤ w.heap.size) (hlim : L.length ≤ 1000000) {s' : AccV} {err : Int} (hs : lrnS s ec L = s') (herr : lrnE s ec L = err) :
    Calls Try.prog 11 #[.pointer (some ⟨p, 0, none⟩), .agg #[.int .i64 ec, vv]] w fun e w' => e = .returned (.int .i64 err) ∧ Hid (AY n w0 p q s' t w' ∧ KC w w') :=
  (alrn_r h.a.a ec vv L B hI hB hlim hs herr).mono fun _ _ ⟨he, hh⟩ => ⟨he, h.turn hh.out.1 hh.out.2 (hs ▸ AccV.ok_lrn h.a.ok ec L)⟩
end
theorem prep_n (s : AccV) (ep r k : Int) : (prepS s ep r k).n = s.n := by unfold prepS; split <;> rfl
theorem acc_n (s : AccV) (ec : Int) (L : List Int) (r k : Int) (veto : Bool) : (accS s ec L r k veto).n = s.n := by unfold accS; split <;> rfl
theorem lrn_n (s : AccV) (ec : Int) (L : List Int) : (lrnS s ec L).n = s.n := by unfold lrnS; split <;> rfl
end Go.Proofs.Ytaaffceanjpmbaa
