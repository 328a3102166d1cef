/-
  FIVE ACCEPTORS IN MEMORY, beside a count: each call by contract, what stands; tries that came in. For acceptors and counts as they may be.
-/
import Derived.Test.YtiidmiioegdfaaaTalC
import Derived.Test.YtiidmiioegdfaaaTalM
import Derived.Test.YtiidmiioegdfaaaTalT
import Derived.Test.YtiidmiioegdfaaaAccT
import Derived.Test.YtiidmiioegdfaaaBallotArgs
namespace Go.Proofs.Ytiidmiioegdfaaa
open Go.ChangeShapes Go.WideShapes Go.ChangeAt Go.RowKit

/-- All blocks of cells stand but counts and acceptors. -/
structure KAT (w w' : World) : Prop where
  size : w.heap.size ≤ w'.heap.size
  same : ∀ (b : Nat) (cs : Array Value) (T : TypeId), w.heap[b]? = some (.cells cs T (0, 0)) → T ≠ 68 → T ≠ 76 → w'.heap[b]? = some (.cells cs T (0, 0))
theorem KAT.of {w w' : World} (h : Below w.heap.size w w') : KAT w w' := ⟨h.size, fun b _ _ hb _ _ => (h.block b (lt_of_block hb)).trans hb⟩
theorem KAT.trans {u v w : World} (h : KAT u v) (k : KAT v w) : KAT u w := ⟨Nat.le_trans h.size k.size, fun b cs T hb h1 h2 => k.same b cs T (h.same b cs T hb h1 h2) h1 h2⟩
theorem KAT.tal {w w' : World} (h : KTal w w') : KAT w w' := ⟨h.size, fun b cs T hb h1 _ => h.same b cs T hb h1⟩
theorem KAT.acc {w w' : World} (h : KAc w w') : KAT w w' := ⟨h.size, fun b cs T hb _ h2 => h.same b cs T hb h2⟩
theorem KAT.row {w w' : World} (h : KAT w w') {v : Value} {L : List Int} (hr : RowI w v L) : RowI w' v L := by
  obtain ⟨ao, cap, rfl, h1, h2, h3, h4⟩ := hr
  refine ⟨ao, cap, rfl, h1, h2, h3, fun hl => ?_⟩
  obtain ⟨b, off, cs, rfl, hb, hc⟩ := h4 hl
  have e := h.same b cs _ hb (by decide) (by decide)
  exact ⟨b, off, cs, rfl, e, fun j hj => (World.cell?_of_block (a := ⟨b, off + j, Option.none⟩) (e.trans hb.symm)).trans (hc j hj)⟩
theorem KAT.ch {w w' : World} (h : KAT w w') {b : Nat} {ep : Int} {v : Value} (hc : ChT w b ep v) : ChT w' b ep v := h.same b _ _ hc (by decide) (by decide)
theorem KAT.bal {w w' : World} (h : KAT w w') {b : Nat} {r k : Int} (hc : BalB w b r k) : BalB w' b r k := h.same b _ _ hc (by decide) (by decide)
theorem KAT.vot {w w' : World} (h : KAT w w') {b : Nat} {v : VoteV} {cv : Value} (hc : VotB w b v cv) : VotB w' b v cv := h.same b _ _ hc (by decide) (by decide)

/-- A proposer's try as plain data; its box. -/
structure TryV where
  node : Int
  reach : Int
  yes : Int
  want : Int
instance : Inhabited TryV := ⟨⟨0, 0, 0, 0⟩⟩
def TryB (w : World) (b : Nat) (x : TryV) : Prop := w.heap[b]? = some (.cells #[.int .i64 x.node, .int .i64 x.reach, .int .i64 x.yes, .int .i64 x.want] 56 (0, 0))
theorem TryB.lt {w : World} {b : Nat} {x : TryV} (h : TryB w b x) : b < w.heap.size := lt_of_block h
theorem TryB.fresh (w : World) (x : TryV) : TryB (w.alloc (.cells #[.int .i64 x.node, .int .i64 x.reach, .int .i64 x.yes, .int .i64 x.want] 56)) w.heap.size x := heap_alloc_new w _
theorem TryB.on {w w' : World} {b : Nat} {x : TryV} (h : TryB w b x) (hb : Below w.heap.size w w') : TryB w' b x := (hb.block b h.lt).trans h
theorem KAT.try {w w' : World} (h : KAT w w') {b : Nat} {x : TryV} (hc : TryB w b x) : TryB w' b x := h.same b _ _ hc (by decide) (by decide)
theorem TryB.cells {w : World} {b : Nat} {x : TryV} (h : TryB w b x) : w.cell? ⟨b, 0, none⟩ = some (.int .i64 x.node) ∧ w.cell? ⟨b, 1, none⟩ = some (.int .i64 x.reach) ∧ w.cell? ⟨b, 2, none⟩ = some (.int .i64 x.yes) ∧ w.cell? ⟨b, 3, none⟩ = some (.int .i64 x.want) := by
  have h' : w.heap[b]? = some (.cells #[.int .i64 x.node, .int .i64 x.reach, .int .i64 x.yes, .int .i64 x.want] 56 (0, 0)) := h
  refine ⟨?_, ?_, ?_, ?_⟩ <;> simp [World.cell?, h']
def TryCells (w : World) (b off : Nat) (x : TryV) : Prop := w.cell? ⟨b, off, none⟩ = some (.int .i64 x.node) ∧ w.cell? ⟨b, off + 1, none⟩ = some (.int .i64 x.reach) ∧ w.cell? ⟨b, off + 2, none⟩ = some (.int .i64 x.yes) ∧ w.cell? ⟨b, off + 3, none⟩ = some (.int .i64 x.want)
/-- The slice value v holds the tries L, in a block below B. -/
def Tries (w : World) (B : Nat) (v : Value) (L : List TryV) : Prop :=
  ∃ ao cap, v = .slice ao L.length cap ∧ L.length ≤ maxLen ∧ (L ≠ [] → ∃ b off, ao = some ⟨b, off, none⟩ ∧ b < B ∧ ∀ i (h : i < L.length), TryCells w b (off + i * 4) L[i])
theorem TryCells.keep {w w' : World} {B b off : Nat} {o : TryV} (h : TryCells w b off o) (hb : Below B w w') (hB : b < B) : TryCells w' b off o :=
  ⟨(hb.cell (p := ⟨b, off, none⟩) hB).trans h.1, (hb.cell (p := ⟨b, off + 1, none⟩) hB).trans h.2.1, (hb.cell (p := ⟨b, off + 2, none⟩) hB).trans h.2.2.1, (hb.cell (p := ⟨b, off + 3, none⟩) hB).trans h.2.2.2⟩
theorem cells_int14 : Try.prog.cellsOf 3 = 1 := by kernel_rfl
theorem cells_Try : Try.prog.cellsOf 56 = 4 := by kernel_rfl
set_option maxRecDepth 100000 in
theorem try_open {H : Type} {enc : TypeId × Value → H} {w : World} {base : Nat} {held : Bool} {n : Nat} {cs : List Value} {x : DataW H × List MemPlace} (hl : cs.length = 4)
    (h : DataW.trod enc Try.prog w base (fun _ => true) held n 56 cs = some x) :
    ∃ o : TryV, cs = [.int .i64 o.node, .int .i64 o.reach, .int .i64 o.yes, .int .i64 o.want] := by
  obtain ⟨xs, m, _, _, _, hxl, hf⟩ := DataW.trod_struct Try.underlying56 h
  match cs, hl with
  | [c0, c1, c2, c3], _ =>
    match xs, hxl with
    | [y0, y1, y2, y3], _ =>
      have h0 : DataW.trod enc Try.prog w base (fun _ => true) held m 3 [c0] = some y0 := by simpa [cells_int14] using hf 0 _ rfl
      have h1 : DataW.trod enc Try.prog w base (fun _ => true) held m 3 [c1] = some y1 := by simpa [cells_int14] using hf 1 _ rfl
      have h2 : DataW.trod enc Try.prog w base (fun _ => true) held m 3 [c2] = some y2 := by simpa [cells_int14] using hf 2 _ rfl
      have h3 : DataW.trod enc Try.prog w base (fun _ => true) held m 3 [c3] = some y3 := by simpa [cells_int14] using hf 3 _ rfl
      obtain ⟨a0, e0, _, _⟩ := DataW.trod_int Try.underlying3 h0
      obtain ⟨a1, e1, _, _⟩ := DataW.trod_int Try.underlying3 h1
      obtain ⟨a2, e2, _, _⟩ := DataW.trod_int Try.underlying3 h2
      obtain ⟨a3, e3, _, _⟩ := DataW.trod_int Try.underlying3 h3
      simp only [List.cons.injEq, and_true] at e0 e1 e2 e3
      subst e0 e1 e2 e3
      exact ⟨⟨a0, a1, a2, a3⟩, rfl⟩
set_option maxRecDepth 100000 in
theorem tries_open {H : Type} {enc : TypeId × Value → H} {w : World} {a : Option Addr} {len cap : Nat} {d : DataW H} {p : List MemPlace} (h : DataW.Trod enc Try.prog w 0 (fun _ => true) true 50 (.slice a len cap) d p) :
    ∃ L, Tries w w.heap.size (.slice a len cap) L := by
  obtain ⟨fuel, hf⟩ := h
  rcases Go.Deep.open_slice Try.underlying50 hf with ⟨hcs, _⟩ | ⟨x, l, c, m, n, D, P1, hcs, _, hl, hm, hmm, _, hi⟩
  · simp [Value.cells] at hcs
    obtain ⟨rfl, rfl, rfl⟩ := hcs
    exact ⟨[], none, 0, rfl, Nat.zero_le _, fun h => absurd rfl h⟩
  · simp [Value.cells] at hcs
    obtain ⟨rfl, rfl, rfl⟩ := hcs
    have hml : len ≤ m := by rw [hmm]; split <;> omega
    have each : ∀ i, i < len → ∃ o : TryV, w.cell? (x.add (i * 4)) = some (.int .i64 o.node) ∧ w.cell? (x.add (i * 4 + 1)) = some (.int .i64 o.reach) ∧ w.cell? (x.add (i * 4 + 2)) = some (.int .i64 o.yes) ∧ w.cell? (x.add (i * 4 + 3)) = some (.int .i64 o.want) := by
      intro i hil
      obtain ⟨cs', hc, ht⟩ := hi i (by omega)
      rw [cells_Try] at hc
      obtain ⟨_, hcl, hat⟩ := World.cells?_some hc
      obtain ⟨o, rfl⟩ := try_open hcl ht
      have g := fun j hj => (Go.Deep.add_add x (i * 4) j) ▸ hat j hj
      exact ⟨o, g 0 (by omega), g 1 (by omega), g 2 (by omega), g 3 (by omega)⟩
    obtain ⟨f, hF⟩ := Go.Deep.choose_lt each
    have hlen : ((List.range len).map f).length = len := by simp
    refine ⟨(List.range len).map f, some x, cap, by rw [hlen], by rw [hlen]; omega, fun hne => ?_⟩
    have hpos : 0 < len := by
      rcases Nat.eq_zero_or_pos len with h | h
      · subst h; exact absurd rfl hne
      · exact h
    obtain ⟨b, off, spot⟩ := x
    have hspot : spot = none := by simpa [Addr.add] using World.cell?_spot (hF 0 hpos).1
    subst hspot
    have hc0 := (hF 0 hpos).1
    rw [Addr.add_lit] at hc0
    refine ⟨b, off, rfl, World.block_lt_of_cell? _ _ hc0, fun i h => ?_⟩
    rw [hlen] at h
    have hf := hF i h
    simp only [Addr.add_lit, ← Nat.add_assoc] at hf
    have e : ((List.range len).map f)[i] = f i := by simp
    rw [e]
    exact ⟨hf.1, hf.2.1, hf.2.2.1, hf.2.2.2⟩

/-- Five acceptors, and the row of pointers to them. -/
structure Five (n : Nat) (ps : Nat → Nat) (rb cap : Nat) (ss : Nat → AccV) (u : World) : Prop where
  acc : ∀ k, k < 5 → Acc 76 u (ps k) (ss k)
  low : ∀ k, k < 5 → n ≤ ps k
  inj : ∀ j k, j < 5 → k < 5 → ps j = ps k → j = k
  row : ∃ cs, u.heap[rb]? = some (.cells cs 52 (0, 0)) ∧ ∀ k, k < 5 → cs[k]? = some (.pointer (some ⟨ps k, 0, none⟩))
section
variable {n rb cap : Nat} {ps : Nat → Nat} {ss : Nat → AccV} {u u' : World}
theorem Five.on (h : Five n ps rb cap ss u) (hb : Below u.heap.size u u') : Five n ps rb cap ss u' := by
  obtain ⟨cs, h1, h2⟩ := h.row
  exact ⟨fun k hk => (h.acc k hk).on hb, h.low, h.inj, cs, (hb.block rb (lt_of_block h1)).trans h1, h2⟩
theorem Five.cell (h : Five n ps rb cap ss u) {k : Nat} (hk : k < 5) : u.cell? ⟨rb, k, none⟩ = some (.pointer (some ⟨ps k, 0, none⟩)) := by
  obtain ⟨cs, h1, h2⟩ := h.row
  simp only [World.cell?, h1]
  exact h2 k hk
theorem Five.kT (h : Five n ps rb cap ss u) (hk : KTal u u') : Five n ps rb cap ss u' := by
  obtain ⟨cs, h1, h2⟩ := h.row
  refine ⟨fun k hk5 => ?_, h.low, h.inj, cs, hk.same _ _ _ h1 (by decide), h2⟩
  obtain ⟨kv, cv, a⟩ := h.acc k hk5
  exact ⟨kv, cv, hk.same _ _ _ a.b (by decide), hk.row a.k, hk.row a.c⟩
theorem Five.turn (h : Five n ps rb cap ss u) {k : Nat} (hk : k < 5) {a : AccV} (hA : Acc 76 u' (ps k) a) (ho : Only (· = ps k) u u') : Five n ps rb cap (updA ss k a) u' := by
  obtain ⟨cs0, hc0⟩ := (h.acc k hk).kind
  obtain ⟨cs, h1, h2⟩ := h.row
  have hne : rb ≠ ps k := fun e => by
    rw [← e, h1] at hc0
    simp only [Option.some.injEq, Obj.cells.injEq] at hc0
    exact absurd hc0.2.1 (by decide)
  refine ⟨fun j hj => ?_, h.low, h.inj, cs, (ho.block rb (lt_of_block h1) hne).trans h1, h2⟩
  unfold updA
  by_cases hjk : j = k
  · subst hjk
    rw [if_pos rfl]
    exact hA
  · rw [if_neg hjk]
    exact (h.acc j hj).beside hc0 (by decide) (fun e => hjk (h.inj j k hj hk e)) ho
theorem Five.beside (h : Five n ps rb cap ss u) {q : Nat} {cs : Array Value} {T : TypeId} (hq : u.heap[q]? = some (.cells cs T (0, 0))) (hT : T ≠ 76) (hi : T ≠ 3) (hp : T ≠ 52) (ho : Only (· = q) u u') : Five n ps rb cap ss u' := by
  obtain ⟨cs1, h1, h2⟩ := h.row
  have hne : rb ≠ q := fun e => by
    rw [e, hq] at h1
    simp only [Option.some.injEq, Obj.cells.injEq] at h1
    exact hp h1.2.1
  refine ⟨fun j hj => ?_, h.low, h.inj, cs1, (ho.block rb (lt_of_block h1) hne).trans h1, h2⟩
  refine (h.acc j hj).beside hq hi (fun e => ?_) ho
  obtain ⟨cs0, hc0⟩ := (h.acc j hj).kind
  rw [e, hq] at hc0
  simp only [Option.some.injEq, Obj.cells.injEq] at hc0
  exact hT hc0.2.1
end

/-- Five acceptors, a count, and boxes that stand beside them. -/
structure RFv (n : Nat) (w : World) (ps : Nat → Nat) (rb cap p : Nat) (Box : World → Prop) (ss : Nat → AccV) (s : TalV) (u : World) : Prop where
  five : Five n ps rb cap ss u
  t : TO n w p s u
  box : Box u
section
variable {n rb cap p : Nat} {w u u' : World} {ps : Nat → Nat} {Box : World → Prop} {ss : Nat → AccV} {s : TalV}
theorem RFv.on (hX : ∀ a b, KAT a b → Box a → Box b) (h : RFv n w ps rb cap p Box ss s u) (hb : Below u.heap.size u u') : RFv n w ps rb cap p Box ss s u' := ⟨h.five.on hb, h.t.on hb, hX _ _ (.of hb) h.box⟩
theorem TO.accs {a : AccV} {q : Nat} (h : TO n w p s u) (hA : Acc 76 u q a) (hn : n ≤ q) (ho : Only (· = q) u u') : TO n w p s u' := by
  obtain ⟨cs0, hc0⟩ := hA.kind
  exact h.beside hc0 (by decide) (by decide) hn ho
theorem rs_prep (hX : ∀ a b, KAT a b → Box a → Box b) (h : RFv n w ps rb cap p Box ss s u) {k : Nat} (hk : k < 5) {tr tn r m : Int} (hg : GoodA (ss k) tr tn) (hm : mayV r m = true) (hl : ltB tr tn r m) :
    Calls Try.prog 25 #[.pointer (some ⟨ps k, 0, none⟩), .int .i64 2, .agg #[.int .i64 r, .int .i64 m]] u fun e w' => ∃ a c, e = .returned (.tuple #[.agg #[.int .i64 r, .int .i64 m, .int .i64 (ss k).v.ar, .int .i64 (ss k).v.an, .bool (ss k).v.has, .int .i64 (ss k).v.ce, .slice a (ss k).v.C.length c], .int .i64 0]) ∧ Hid ((RowI w' (.slice a (ss k).v.C.length c) (ss k).v.C ∧ KAc u w') ∧ RFv n w ps rb cap p Box (updA ss k (prp (ss k) r m)) s w') := by
  obtain ⟨e1, e2, e3, e4⟩ := good_prep hg hm hl
  have hA := h.five.acc k hk
  exact (aprep_r hA hg.ok.wrap (by have := hg.ok.len; omega) 2 r m e2 e3 e1).mono fun _ _ ⟨a, c, he, hh⟩ => by
    obtain ⟨h1, h2, h3⟩ := hh.out
    exact ⟨a, c, he, ⟨h1, KAc.only hA h3⟩, h.five.turn hk h2 h3, h.t.accs hA (h.five.low k hk) h3, hX _ _ (.acc (KAc.only hA h3)) h.box⟩
theorem rs_acc (hX : ∀ a b, KAT a b → Box a → Box b) (h : RFv n w ps rb cap p Box ss s u) {k : Nat} (hk : k < 5) {r m y : Int} (hg : GoodA (ss k) r m) (hm : mayV r m = true) (h0 : 0 ≤ y) (h5 : y < 5) (v : Value) (hv : RowI u v [y]) :
    Calls Try.prog 26 #[.pointer (some ⟨ps k, 0, none⟩), .agg #[.int .i64 2, v], .agg #[.int .i64 r, .int .i64 m], .bool false] u fun e w' => e = .returned (.int .i64 0) ∧ Hid (RFv n w ps rb cap p Box (updA ss k (acp (ss k) r m y)) s w') := by
  obtain ⟨e1, e2, e3⟩ := good_acc hg hm h0 h5
  have hA := h.five.acc k hk
  exact (aacc_r hA hg.ok.wrap 2 v [y] _ hv.ints (Nat.le_refl _) (by simp) r m false e2 e1).mono fun _ _ ⟨he, hh⟩ => by
    obtain ⟨h2, h3⟩ := hh.out
    exact ⟨he, h.five.turn hk h2 h3, h.t.accs hA (h.five.low k hk) h3, hX _ _ (.acc (KAc.only hA h3)) h.box⟩
theorem rs_pro (hX : ∀ a b, KAT a b → Box a → Box b) (h : RFv n w ps rb cap p Box ss s u) (x : Int) (v : VoteV) (vv : Value) (B : Nat) (hIn : Ints u B vv v.C) (hB : B ≤ u.heap.size) (he0 : -9223372036854775808 ≤ v.ce) (he1 : v.ce ≤ 9223372036854775807) (hlim : v.C.length ≤ 1000000) {R : Bool} (hR : proB s x v = R) :
    Calls Try.prog 14 #[.pointer (some ⟨p, 0, none⟩), .int .i64 x, .agg #[.int .i64 v.pr, .int .i64 v.pn, .int .i64 v.ar, .int .i64 v.an, .bool v.has, .int .i64 v.ce, vv]] u fun e w' => e = .returned (.bool R) ∧ Hid (RFv n w ps rb cap p Box ss (proS s x v) w') :=
  (to_pro h.t x v vv B hIn hB he0 he1 hlim rfl hR).mono fun _ _ ⟨he, hh⟩ => ⟨he, h.five.kT hh.out.2, hh.out.1, hX _ _ (.tal hh.out.2) h.box⟩
theorem rs_yes (hX : ∀ a b, KAT a b → Box a → Box b) (h : RFv n w ps rb cap p Box ss s u) (x : Int) {R : Bool} (hR : yesB s x = R) :
    Calls Try.prog 16 #[.pointer (some ⟨p, 0, none⟩), .int .i64 x] u fun e w' => e = .returned (.bool R) ∧ Hid (RFv n w ps rb cap p Box ss (yesS s x) w') :=
  (to_yes h.t x rfl hR).mono fun _ _ ⟨he, hh⟩ => ⟨he, h.five.kT hh.out.2, hh.out.1, hX _ _ (.tal hh.out.2) h.box⟩
end
theorem info_pAcc : (Try.prog.info? 52).map (fun i => (i.zero, i.size, i.bytes)) = some (some (.pointer none), 1, 8) := by kernel_rfl
theorem src_one_acc (w : World) (v : Value) (e : TypeId) (h1 : v.oneCell' = true) : Src Try.prog 1 51 (.slice (some ⟨w.heap.size, 0, none⟩) 1 1) 1 [v] (w.alloc (.cells #[v] e)) :=
  Src.ofSlice _ Try.underlying51 ⟨w.heap.size, 0, none⟩ 1 1 [v] rfl
    (by intro j u hj; match j, hj with | 0, hj => simp at hj; subst hj; simp [Addr.add])
    (by intro u hu; simp at hu; subst hu; exact h1)
end Go.Proofs.Ytiidmiioegdfaaa
