/-
  THE PROGRAM's Read: the records of bytes, cloned, in a slice of one's own. Of bytes at most 2^47.
-/
import Derived.RegionTactic
import Derived.Deep.RegionLaw
import Derived.Test.YtpmigpgkicacpaaWalI
namespace Go.Proofs.Ytpmigpgkicacpaa
open Go.RowKit Go.Shelf

attribute [local go_sem] Oper.semAt_some

theorem info_bytes8 : (Try.prog.info? 22).map (fun i => (i.zero, i.size, i.bytes)) = some (some (.slice none 0 0), 1, 24) := by kernel_rfl
theorem wal_step_append {P : Program} {ops : Array Oper} {o : Oper} {a : Act} {w : World} {K : Act → World → Prop} {Q : Exit → Act → World → Prop} {E : Prop} (hgd : o.guard = none) (s x : Operand) (t tx : TypeId)
    (ho : o.op = .call { callee := .builtin .append, args := #[s, x], argTypes := #[t, tx] })
    (base : Nat) (e : TypeId) (i : TypeInfo) (z : Value) (size bytes : Nat) (ht : P.underlying t = some (.slice e)) (hi : P.info? e = some i) (hz : i.zero = some z)
    (hsize : i.size = size) (hby : i.bytes = bytes) (hzs : z.cells.size = size)
    (v : Value) (n : Nat) (xs : List Value) (hs : a.eval s = v) (hown : w.ownsRow base e size v n xs)
    (xv : Value) (m : Nat) (news : List Value) (hx : a.eval x = xv) (hsrc : Src P size tx xv m news w)
    (h63 : n + m ≤ maxLen) (hbytes : (n + m) * bytes ≤ 140737488355328) (hbase : base ≤ w.heap.size)
    (hK : ∀ v' w', w'.ownsRow base e size v' (n + m) (xs ++ news) → w.grownBy w' v.ownBlock → K (a.put o.dst v') w') :
    if Region.wanted o (yielded ops a.tmps) = true then Oper.wp P o a w K Q else E := by
  have hw : Region.wanted o (yielded ops a.tmps) = true := by simp [Region.wanted, hgd]
  rw [if_pos hw]
  obtain ⟨v', w', hrun, h1, h2⟩ := run_append_own_src (P := P) base t tx o.type e i z size bytes ht hi hz hsize hby hzs v n xs hown xv m news hsrc h63 hbytes hbase
  unfold Oper.wp
  simp [execOp, ho, resolve, invoke, builtin, hs, hx, hrun, Result.andThen]
  exact hK _ _ h1 h2
theorem src_slice (w : World) (v : Value) (h1 : v.oneCell' = true) : Src Try.prog 1 27 (.slice (some ⟨w.heap.size, 0, none⟩) 1 1) 1 [v] (w.alloc (.cells #[v] 22)) :=
  Src.ofSlice _ Try.underlying27 ⟨w.heap.size, 0, none⟩ 1 1 [v] rfl
    (by intro j u hj; match j, hj with | 0, hj => simp at hj; subst hj; simp [Addr.add])
    (by intro u hu; simp at hu; subst hu; exact h1)

/-- The slice value v holds the records L, each in memory of its own; all of it lies from block n on. -/
def Recs (w : World) (n : Nat) (v : Value) (L : List (List UInt8)) : Prop :=
  ∃ vals : List Value, w.ownsRow n 22 1 v L.length vals ∧ ∀ i, i < L.length → ∃ u, vals[i]? = some u ∧ w.ownsRow n 5 1 u (L.getD i []).length (Lib.byteCells (L.getD i []))
theorem row_not {w : World} {n m : Nat} {e e' : TypeId} {s s' k k' : Nat} {v v' : Value} {xs xs' : List Value} (h : w.ownsRow n e s v k xs) (h' : w.ownsRow m e' s' v' k' xs') (hne : e ≠ e') : ∀ b, v.ownBlock = some b → v'.ownBlock ≠ some b := by
  intro b hb hb'
  rcases h.2 with ⟨rfl, _⟩ | ⟨g, cap, cur, rfl, _, hg, _⟩
  · simp [Value.ownBlock] at hb
  rcases h'.2 with ⟨rfl, _⟩ | ⟨g', cap', cur', rfl, _, hg', _⟩
  · simp [Value.ownBlock] at hb'
  simp only [Value.ownBlock, Option.some.injEq] at hb hb'
  subst hb hb'
  rw [hg] at hg'
  simp at hg'
  exact hne hg'.2
theorem Recs.nil (w : World) (n : Nat) : Recs w n (.slice none 0 0) [] := ⟨[], World.ownsRow_nil _ _ _ _, fun i h => by simp at h⟩
theorem Recs.on {w w' : World} {n : Nat} {v : Value} {L : List (List UInt8)} (h : Recs w n v L) (hb : Below w.heap.size w w') : Recs w' n v L := by
  obtain ⟨vals, h1, h2⟩ := h
  refine ⟨vals, ownsRow_on h1 fun b hb' => hb.block b (h1.lt b hb').2, fun i hi => ?_⟩
  obtain ⟨u, hu, h3⟩ := h2 i hi
  exact ⟨u, hu, ownsRow_on h3 fun b hb' => hb.block b (h3.lt b hb').2⟩
theorem Recs.low {w : World} {n m : Nat} {v : Value} {L : List (List UInt8)} (h : Recs w n v L) (hm : m ≤ n) : Recs w m v L := by
  obtain ⟨vals, h1, h2⟩ := h
  exact ⟨vals, ownsRow_low h1 hm, fun i hi => (h2 i hi).imp fun u ⟨hu, h3⟩ => ⟨hu, ownsRow_low h3 hm⟩⟩
theorem Recs.shape {w : World} {n : Nat} {v : Value} {L : List (List UInt8)} (h : Recs w n v L) : ∃ a c, v = .slice a L.length c := by
  obtain ⟨vals, h1, _⟩ := h
  exact own_shape h1
/-- Worlds that turn no cells keep it. -/
theorem Recs.grown {X Y : World} {row : Option Nat} {n : Nat} {v : Value} {L : List (List UInt8)} (h : Recs X n v L) (hg : X.grownBy Y row) (hrow : ∀ r, row = some r → ∃ o : Obj, X.heap[r]? = some o ∧ o.isCells = false) : Recs Y n v L := by
  have k : ∀ {e s v k xs}, X.ownsRow n e s v k xs → Y.ownsRow n e s v k xs := fun {e s v k xs} hr => by
    refine hr.kept hg ?_
    rcases hr.2 with ⟨rfl, _⟩ | ⟨g, cap, cur, rfl, _, hgb, _⟩
    · exact .inl rfl
    · refine .inr fun e' => ?_
      obtain ⟨o, ho, hc⟩ := hrow g (by simpa [Value.ownBlock] using e'.symm)
      rw [hgb] at ho; cases ho; cases hc
  obtain ⟨vals, h1, h2⟩ := h
  exact ⟨vals, k h1, fun i hi => (h2 i hi).imp fun u ⟨hu, h3⟩ => ⟨hu, k h3⟩⟩
theorem boxed_grown {X Y : World} {row : Option Nat} {b : Nat} {t : TypeId} {v : Value} (h : Boxed X b t v) (hg : X.grownBy Y row) (hrow : ∀ r, row = some r → ∃ o : Obj, X.heap[r]? = some o ∧ o.isCells = false) : Boxed Y b t v :=
  h.kept hg fun e' => by
    obtain ⟨o, ho, hc⟩ := hrow b e'.symm
    rw [show X.heap[b]? = _ from h] at ho; cases ho; cases hc

/-- Between two rounds. -/
def RI {w0 : World} {B : Nat} (R : Nat) (w : World) (pre : List (RecV w0 B)) (W : World) : Prop :=
  (∃ v, Boxed W R 27 v ∧ Recs W (R + 3) v (recsOf pre)) ∧ Boxed W (R + 1) 3 (.int .i64 (endOf pre)) ∧ Below R w W ∧ R + 3 ≤ W.heap.size
theorem ri_own {w0 : World} {B R : Nat} {w : World} : OwnFrom (R + 3) (RI (w0 := w0) (B := B) R w) := by
  rintro s X Y row ⟨⟨v, h1, h2⟩, h3, h4, h5⟩ hg hrow
  have hr : ∀ r, row = some r → ∃ o : Obj, X.heap[r]? = some o ∧ o.isCells = false := fun r e => (hrow r e).2
  exact ⟨⟨v, boxed_grown h1 hg hr, h2.grown hg hr⟩, boxed_grown h3 hg hr, h4.grown hg (by omega) (fun k e => by have := (hrow k e).1; omega), by have := hg.size; omega⟩

theorem recsOf_length {w0 : World} {B : Nat} (pre : List (RecV w0 B)) : (recsOf pre).length = pre.length := by simp [recsOf]

/-- What the append and the two stores of a round leave. -/
theorem ri_next {w0 : World} {B R : Nat} {w W w1 w3 : World} {pre : List (RecV w0 B)} {x : RecV w0 B} {v u v2 : Value} {vals : List Value} {q : Nat} (hq : q = x.l.length) (h1 : Boxed W R 27 v) (hrow : W.ownsRow (R + 3) 22 1 v pre.length vals)
    (hrec : ∀ i, i < pre.length → ∃ u, vals[i]? = some u ∧ W.ownsRow (R + 3) 5 1 u ((recsOf pre).getD i []).length (Lib.byteCells ((recsOf pre).getD i [])))
    (hend : Boxed W (R + 1) 3 (.int .i64 (endOf pre))) (hB : Below R w W) (hsz : R + 3 ≤ W.heap.size) (b1 : Below W.heap.size W w1) (hu : w1.ownsRow W.heap.size 5 1 u q (Lib.byteCells x.l))
    (hown : w3.ownsRow (R + 3) 22 1 v2 (pre.length + 1) (vals ++ [u])) (hgrow : (w1.alloc (.cells #[u] 22)).grownBy w3 v.ownBlock) :
    (w3.cell? ⟨R, 0, none⟩ = some v ∧ w3.frozen? ⟨R, 0, none⟩ = false) ∧ ((w3.setCell ⟨R, 0, none⟩ v2).cell? ⟨R + 1, 0, none⟩ = some (.int .i64 (endOf pre)) ∧ (w3.setCell ⟨R, 0, none⟩ v2).frozen? ⟨R + 1, 0, none⟩ = false) ∧
    KeepsOthers W ((w3.setCell ⟨R, 0, none⟩ v2).setCell ⟨R + 1, 0, none⟩ (.int .i64 x.pos)) ∧ KeepB R (R + 2) W ((w3.setCell ⟨R, 0, none⟩ v2).setCell ⟨R + 1, 0, none⟩ (.int .i64 x.pos)) ∧
    RI R w (pre ++ [x]) ((w3.setCell ⟨R, 0, none⟩ v2).setCell ⟨R + 1, 0, none⟩ (.int .i64 x.pos)) := by
  subst hq
  have hs1 := b1.size
  have b2 : Below W.heap.size W (w1.alloc (.cells #[u] 22)) := b1.alloc hs1 _
  -- the row's block is a block of records
  have hrb : ∀ b, v.ownBlock = some b → R + 3 ≤ b ∧ b < W.heap.size := hrow.lt
  have keep : ∀ k, k < W.heap.size → v.ownBlock ≠ some k → w3.heap[k]? = W.heap[k]? := fun k hk hn => (hgrow.block k (by have := b2.size; omega) hn.symm).trans (b2.block k hk)
  have hlt3 : R + 3 ≤ w3.heap.size := by have := hgrow.size; have := b2.size; omega
  have p1 : w3.heap[R]? = W.heap[R]? := keep R (by omega) (fun e => by have := (hrb R e).1; omega)
  have p2 : w3.heap[R + 1]? = W.heap[R + 1]? := keep (R + 1) (by omega) (fun e => by have := (hrb _ e).1; omega)
  have p3 : w3.heap[R + 2]? = W.heap[R + 2]? := keep (R + 2) (by omega) (fun e => by have := (hrb _ e).1; omega)
  have q1 : Boxed w3 R 27 v := p1.trans h1
  have q2 : Boxed w3 (R + 1) 3 (.int .i64 (endOf pre)) := p2.trans hend
  have s1 : Boxed (w3.setCell ⟨R, 0, none⟩ v2) R 27 v2 := q1.set v2
  have s2 : Boxed (w3.setCell ⟨R, 0, none⟩ v2) (R + 1) 3 (.int .i64 (endOf pre)) := (Below.heap_setCell _ _ _ (R + 1) (by show R + 1 ≠ R; omega)).trans q2
  have t1 : Boxed ((w3.setCell ⟨R, 0, none⟩ v2).setCell ⟨R + 1, 0, none⟩ (.int .i64 x.pos)) R 27 v2 := (Below.heap_setCell _ _ _ R (by show R ≠ R + 1; omega)).trans s1
  have t2 : Boxed ((w3.setCell ⟨R, 0, none⟩ v2).setCell ⟨R + 1, 0, none⟩ (.int .i64 x.pos)) (R + 1) 3 (.int .i64 x.pos) := s2.set _
  have kk : ∀ k, k ≠ R → k ≠ R + 1 → ((w3.setCell ⟨R, 0, none⟩ v2).setCell ⟨R + 1, 0, none⟩ (.int .i64 x.pos)).heap[k]? = w3.heap[k]? := fun k a b =>
    (Below.heap_setCell _ _ _ k b).trans (Below.heap_setCell _ _ _ k a)
  have hbR : Below R w ((w3.setCell ⟨R, 0, none⟩ v2).setCell ⟨R + 1, 0, none⟩ (.int .i64 x.pos)) := by
    have g0 : Below R w (w1.alloc (.cells #[u] 22)) := hB.trans (b2.mono (by omega))
    have g1 : Below R w w3 := g0.grown hgrow (by have := b2.size; omega) fun k e => by have := (hrb k e).1; omega
    exact (g1.setCell (p := ⟨R, 0, none⟩) (Nat.le_refl R) _).setCell (p := ⟨R + 1, 0, none⟩) (Nat.le_succ R) _
  have hbW : Below R W ((w3.setCell ⟨R, 0, none⟩ v2).setCell ⟨R + 1, 0, none⟩ (.int .i64 x.pos)) := by
    have g0 : Below R W (w1.alloc (.cells #[u] 22)) := b2.mono (by omega)
    have g1 : Below R W w3 := g0.grown hgrow (by have := b2.size; omega) fun k e => by have := (hrb k e).1; omega
    exact (g1.setCell (p := ⟨R, 0, none⟩) (Nat.le_refl R) _).setCell (p := ⟨R + 1, 0, none⟩) (Nat.le_succ R) _
  have hko : KeepsOthers W ((w3.setCell ⟨R, 0, none⟩ v2).setCell ⟨R + 1, 0, none⟩ (.int .i64 x.pos)) := by
    refine (((KeepsOthers.of_grownBy (row := none) ⟨b2.os, b2.tape, b2.output, b2.size, fun k hk _ => b2.block k hk⟩ (fun j o ej _ => by cases ej)).trans (KeepsOthers.of_grownBy hgrow fun j o ej hj => ?_)).trans (KeepsOthers.setCell _ _ _)).trans (KeepsOthers.setCell _ _ _)
    rcases hrow.2 with ⟨rfl, _⟩ | ⟨g, cap, cur, rfl, _, hgb, _⟩
    · simp [Value.ownBlock] at ej
    · obtain rfl : g = j := by simpa [Value.ownBlock] using ej
      rw [b2.block g (lt_of_block hgb), hgb] at hj; cases hj; rfl
  have hrow4 : ∀ {n e s v' k xs}, w3.ownsRow n e s v' k xs → R + 2 ≤ n → ((w3.setCell ⟨R, 0, none⟩ v2).setCell ⟨R + 1, 0, none⟩ (.int .i64 x.pos)).ownsRow n e s v' k xs := fun {n e s v' k xs} h hn =>
    ownsRow_on h fun b hb => by have := (h.lt b hb).1; exact kk b (by omega) (by omega)
  have hrecs : Recs ((w3.setCell ⟨R, 0, none⟩ v2).setCell ⟨R + 1, 0, none⟩ (.int .i64 x.pos)) (R + 3) v2 (recsOf (pre ++ [x])) := by
    have hvl : vals.length = pre.length := by have := hrow.1; omega
    refine ⟨vals ++ [u], ?_, fun i hi => ?_⟩
    · rw [recsOf_length, List.length_append, List.length_singleton]
      exact hrow4 hown (by omega)
    · rw [recsOf_length, List.length_append, List.length_singleton] at hi
      rw [recsOf_snoc]
      by_cases hip : i < pre.length
      · obtain ⟨u', hu', hr⟩ := hrec i hip
        refine ⟨u', by rw [List.getElem?_append_left (by omega)]; exact hu', ?_⟩
        rw [show (recsOf pre ++ [x.l]).getD i [] = (recsOf pre).getD i [] by simp only [List.getD]; rw [List.getElem?_append_left (by rw [recsOf_length]; exact hip)]]
        refine hrow4 (ownsRow_on hr fun b hb => keep b (hr.lt b hb).2 (row_not hr hrow (by decide) b hb)) (by omega)
      · obtain rfl : i = pre.length := by omega
        refine ⟨u, by rw [List.getElem?_append_right (by omega), hvl, Nat.sub_self]; rfl, ?_⟩
        have e : (recsOf pre ++ [x.l]).getD pre.length [] = x.l := by simp [List.getD, recsOf]
        rw [e]
        have hu2 : (w1.alloc (.cells #[u] 22)).ownsRow W.heap.size 5 1 u x.l.length (Lib.byteCells x.l) := hu.alloc _
        have hu3 : w3.ownsRow W.heap.size 5 1 u x.l.length (Lib.byteCells x.l) := ownsRow_on hu2 fun b hb => by
          have h := hu2.lt b hb
          exact hgrow.block b h.2 (fun e => by have := (hrb b e.symm).2; omega)
        exact hrow4 (ownsRow_low hu3 (by omega)) (by omega)
  exact ⟨⟨q1.cell, q1.frozen⟩, ⟨s2.cell, s2.frozen⟩, hko, ⟨hbW, (kk (R + 2) (by omega) (by omega)).trans p3⟩, ⟨v2, t1, hrecs⟩, by rw [endOf_snoc]; exact t2, hbR, by have := hbW.size; omega⟩

set_option maxHeartbeats 400000 in
theorem wframes_any (a : Option Addr) (n c : Nat) (w : World) : Calls Try.prog 26 #[.slice a n c] w fun e w' => e = .returned (.func (.func 33) #[] #[.pointer (some ⟨w.heap.size, 0, none⟩)]) ∧ w' = w.alloc (.cells #[.slice a n c] 22) := by
  go_enter Try.func26, Try.ntmps26
  go_wp2
  go_ret
  exact ⟨rfl, rfl⟩

theorem frames_stops (n Bs n₀ B : Nat) (v0 : Value) (w0 : World) (bl : List UInt8) (hlim : bl.length ≤ 140737488355328) (hB : Byt w0 B v0 bl) (hBn : B ≤ n₀) (w : World) (hBw : Below B w0 w) (hBs : Bs < w.heap.size) (hn₀ : n₀ ≤ w.heap.size) (hbox : w.cell? ⟨Bs, 0, none⟩ = some v0) :
    SeqStopsK Fence.wide n Try.prog 33 #[.pointer (some ⟨Bs, 0, none⟩)] (encR (w0 := w0) (B := B)) (KeepB n₀ Bs) (fun ys => Rds bl (recsOf ys) (endOf ys)) (fun _ => True) bl.length w := fun l J Jx W hW hJa _ hY h0 =>
  frames1_in n l Bs n₀ B v0 w0 bl hlim hB hBn J Jx hY W (Nat.le_trans hn₀ hW.size) hJa (hBw.trans (hW.mono (by omega))) (Nat.lt_of_lt_of_le hBs hW.size) ((hW.cell (p := ⟨Bs, 0, none⟩) hBs).trans hbox) h0

/-- Records and a place are told. -/
def TellsRd (L : List (List UInt8)) (n : Nat) (w : World) (e : Ending) (w' : World) : Prop :=
  ∃ v, e = .returned (.tuple #[v, .int .i64 n]) ∧ Recs w' w.heap.size v L ∧ Below w.heap.size w w'

set_option maxRecDepth 100000 in
set_option maxHeartbeats 4000000 in
theorem wread_in (n B : Nat) (hn : 3 ≤ n) (a0 : Option Addr) (c0 : Nat) (bl : List UInt8) (w : World) (hB : Byt w B (.slice a0 bl.length c0) bl) (hBw : B ≤ w.heap.size) (hlim : bl.length ≤ 140737488355) :
    CallsIn Fence.wide n Try.prog 11 #[.slice a0 bl.length c0] w fun e w' => ∃ L m, Rds bl L m ∧ TellsRd L m w e w' := by
  have hro : Fence.wide.round = none := rfl
  have h1 : 1 ≤ n := by omega
  obtain ⟨i1, hi, hz0, hz1, hz2⟩ := info_parts info_bytes8
  obtain ⟨R, hR⟩ : ∃ R, R = w.heap.size := ⟨_, rfl⟩
  have HB := Lib.hid hB
  clear hB
  refine callsIn_of_wp_marks Try.func11 rfl trivial ?_ hro
  simp only [Try.ntmps11, List.size_toArray, List.length_cons, List.length_nil, Nat.reduceAdd, Nat.reduceSub, Array.replicate_succ, Array.replicate_zero, List.push_toArray, List.append_toArray, List.nil_append, List.cons_append]
  gi_wp2_with (refine ⟨trivial, ?_⟩; refine (callsIn_wide.2 (wframes_any _ _ _ _)).mono ?_; rintro e w' ⟨rfl, rfl⟩)
  obtain ⟨w3, hw3⟩ : ∃ w3, w3 = ((w.alloc (.cells #[.slice none 0 0] 27)).alloc (.cells #[.int .i64 0] 3)).alloc (.cells #[.slice a0 bl.length c0] 22) := ⟨_, rfl⟩
  have hs3 : w3.heap.size = w.heap.size + 3 := by rw [hw3]; simp
  have hB3 : Below w.heap.size w w3 := by rw [hw3]; exact (((Below.refl _ w).alloc (Nat.le_refl _) _).alloc (by simp) _).alloc (by simp; omega) _
  have hX3 : Boxed w3 w.heap.size 27 (.slice none 0 0) := by rw [hw3]; exact ((Boxed.new w 27 _).alloc _).alloc _
  have hE3 : Boxed w3 (w.heap.size + 1) 3 (.int .i64 0) := by
    rw [hw3]
    have := (Boxed.new (w.alloc (.cells #[.slice none 0 0] 27)) 3 (.int .i64 0)).alloc (.cells #[.slice a0 bl.length c0] 22)
    rwa [World.size_alloc] at this
  have hF3 : Boxed w3 (w.heap.size + 2) 22 (.slice a0 bl.length c0) := by
    rw [hw3]
    have := Boxed.new ((w.alloc (.cells #[.slice none 0 0] 27)).alloc (.cells #[.int .i64 0] 3)) 22 (.slice a0 bl.length c0)
    rwa [World.size_alloc, World.size_alloc] at this
  rw [← hw3]
  clear hw3
  refine wpIn_rangeFunc_ownF hro h1 (gf := 33) (lb := #[.pointer (some ⟨w.heap.size + 2, 0, none⟩)]) rfl trivial (enters_of Try.func33 (by kernel_rfl) rfl)
    (frames_stops (n - 1) (w.heap.size + 2) w.heap.size B (.slice a0 bl.length c0) w bl (by omega) HB.out hBw w3 (hB3.mono hBw) (by omega) (by omega) hF3.cell)
    (fun h k => KeepB.trans h k) (fun W l o o' hl ho h1 h2 => ⟨belowK_b (w := w3) (by omega) W l o o' hl ho h1 h2, World.putObj_heap_other (by omega)⟩) (Below.refl _ _) (fun _ => rfl)
    (fun pre W => RI w.heap.size w pre W)
    (fun _ _ _ => False)
    (by have := ri_own (w0 := w) (B := B) (R := w.heap.size) (w := w); rwa [← hs3] at this)
    (fun _ _ _ _ _ hs _ _ => hs)
    ⟨⟨_, hX3, Recs.nil _ _⟩, hE3, hB3, by omega⟩
    (fun x => { tmps := #[.slice a0 bl.length c0, undef, .slice none 0 0, .int .i64 0, .pointer (some ⟨w.heap.size, 0, none⟩), .pointer (some ⟨w.heap.size + 1, 0, none⟩), .int .i64 x.pos, x.v, .slice a0 bl.length c0, .func (.func 33) #[] #[.pointer (some ⟨w.heap.size + 2, 0, none⟩)], .int .i64 x.pos, x.v, undef, undef, undef, undef, undef, undef, undef, undef], defers := [] }) ?assign ?body ?done ?stop
  case assign =>
    intro l x W K hK
    simp only [encR]
    gi_wp2
    exact hK
  case body =>
    rintro l pre x W hRI hlt
    obtain ⟨⟨v, hv, vals, hrow, hrec⟩, hend, hb, hsz⟩ := hRI
    rw [recsOf_length] at hrow hrec
    obtain ⟨va, vc, rfl⟩ := own_shape hrow
    obtain ⟨ps, xv, xl, hps, hxl, hxB⟩ := x
    obtain ⟨xa, xc, rfl, _⟩ := id hxB
    have hpl : pre.length ≤ 140737488355 := by omega
    have HC : Hid (∀ u, Below W.heap.size W u → Calls Try.prog 27 #[.slice xa xl.length xc] u fun e w1 => ∃ ua uc, e = .returned (.slice ua xl.length uc) ∧ w1.ownsRow W.heap.size 5 1 (.slice ua xl.length uc) xl.length (Lib.byteCells xl) ∧ Below W.heap.size W w1) := fun u hu => by
      have hsu := hu.size
      refine (clone_any _ B xl u (hxB.keep ((hb.mono hBw).trans (hu.mono (by omega)))) (by omega) (by omega)).mono ?_
      rintro e w1 ⟨v', rfl, h1, h2⟩
      obtain ⟨ua, uc, rfl⟩ := own_shape h1
      exact ⟨ua, uc, rfl, ownsRow_low h1 hsu, hu.trans (h2.mono hsu)⟩
    have HN := Lib.hid fun (w1 w3 : World) (u v2 : Value) (b1 : Below W.heap.size W w1) (hu : w1.ownsRow W.heap.size 5 1 u xl.length (Lib.byteCells xl)) (hown : w3.ownsRow (w.heap.size + 3) 22 1 v2 (pre.length + 1) (vals ++ [u])) (hgrow : (w1.alloc (.cells #[u] 22)).grownBy w3 (Value.slice va pre.length vc).ownBlock) =>
      ri_next (x := (⟨ps, .slice xa xl.length xc, xl, hps, hxl, hxB⟩ : RecV w B)) rfl hv hrow hrec hend hb hsz b1 hu hown hgrow
    have c0 : W.cell? ⟨w.heap.size, 0, none⟩ = some (.slice va pre.length vc) := hv.cell
    have HV := Lib.hid hv
    have HROW := Lib.hid hrow
    have B0 : Below W.heap.size W W.drew := ⟨rfl, rfl, rfl, Nat.le_refl _, fun _ _ => rfl⟩
    have hnd : ∀ (i : Nat) o, (#[] : Array Oper)[i]? = some o → True := fun _ _ _ => trivial
    dsimp only
    clear hlt hv hrow hrec hend hnd
    gi_wp2_with fail
    refine wpIn_region_any (by kernel_rfl) (wpAnyIn_of_plain l _ ?hnd ?hQ _ _ _ _ ?_)
    case hnd =>
      intro i o ho c
      rcases i with _ | _ | _ | _ | _ | _ | i
      all_goals first
        | (simp only [List.getElem?_toArray, List.getElem?_cons_zero, List.getElem?_cons_succ, List.getElem?_nil, Option.some.injEq] at ho; subst ho; exact fun h => by cases h)
        | (simp at ho)
    case hQ => rintro ⟨_, _, h⟩; exact h
    change wpAny _ _ _ _ _ _ _ (World.drew _)
    simp only [Array.size, List.length_cons, List.length_nil]
    refine wpAny_take (i := 1) (v := .slice xa xl.length xc) rfl (by kernel_rfl) (by kernel_rfl) (by kernel_rfl) (fun _ _ _ h => h) (.inl ⟨rfl, fun _ => rfl⟩) ?_
    try simp only [Act.put, List.setIfInBounds_toArray]
    refine wpAny_ready (rs := [0, 2]) (by kernel_rfl) (by simp) (AllReady.cons rfl (fun K hK => ?_) (AllReady.cons rfl (fun K hK => ?_) AllReady.nil))
    · try simp only [Go.wp_at_zero]
      go_simp
      with_reducible refine hK _ _ ?_
      clear hK K
      try simp only [Act.put, List.setIfInBounds_toArray, List.set_cons_zero, List.set_cons_succ]
      refine wpAny_ready (rs := [2]) (by kernel_rfl) (by simp) (AllReady.cons rfl (fun K hK => ?_) AllReady.nil)
      try simp only [Go.wp_at_succ, Go.wp_at_zero]
      go_simp
      refine (HC.out _ B0).mono ?_
      rintro e w1 ⟨ua, uc, rfl, hu, hb1⟩
      have U1 := Lib.hid hu
      have B1 := Lib.hid hb1
      have c1 : w1.cell? ⟨w.heap.size, 0, none⟩ = some (.slice va pre.length vc) := (hb1.cell (p := ⟨w.heap.size, 0, none⟩) HV.out.lt).trans HV.out.cell
      have hlw : w.heap.size < w1.heap.size := Nat.lt_of_lt_of_le HV.out.lt hb1.size
      clear hu hb1
      first | (with_reducible refine hK _ _ ?_) | (go_wp2_with fail; with_reducible refine hK _ _ ?_)
      clear hK K
      try simp only [Act.put, List.setIfInBounds_toArray, List.set_cons_zero, List.set_cons_succ]
      refine wpAny_ready (rs := [3]) (by kernel_rfl) (by simp) (AllReady.cons rfl (fun K hK => ?_) AllReady.nil)
      try simp only [Go.wp_at_succ, Go.wp_at_zero]
      go_simp
      with_reducible refine hK _ _ ?_
      clear hK K
      try simp only [Act.put, List.setIfInBounds_toArray, List.set_cons_zero, List.set_cons_succ]
      refine wpAny_ready (rs := [4]) (by kernel_rfl) (by simp) (AllReady.cons rfl (fun K hK => ?_) AllReady.nil)
      refine wal_step_append rfl (.tmp 12) (.tmp 15) 27 27 rfl (w.heap.size + 3) 22 i1 (.slice none 0 0) 1 24 Try.underlying27 hi hz0 hz1 hz2 rfl _ pre.length vals rfl (ownsRow_on HROW.out fun b hb => (B1.out.alloc B1.out.size _).block b (HROW.out.lt b hb).2) _ 1 [.slice ua xl.length uc] rfl (src_slice w1 _ rfl) (by unfold maxLen; omega) (by omega) (by have := B1.out.size; simp; omega) ?_
      intro v2 w3 hown hgrow
      obtain ⟨⟨k1, k2⟩, ⟨k3, k4⟩, k5, k6, k7⟩ := HN.out w1 w3 _ v2 B1.out U1.out hown hgrow
      have K5 := Lib.hid k5
      have K6 := Lib.hid k6
      have K7 := Lib.hid k7
      obtain ⟨g2, cap2, rfl⟩ := ownsRow_succ hown
      clear k5 k6 k7 hgrow hown
      refine hK _ _ ?_
      clear hK K
      try simp only [Act.put, List.setIfInBounds_toArray]
      refine wpAny_ready (rs := [5]) (by kernel_rfl) (by simp) (AllReady.cons rfl (fun K hK => ?_) AllReady.nil)
      try simp only [Go.wp_at_succ, Go.wp_at_zero]
      go_simp
      with_reducible refine hK _ _ ?_
      clear hK K
      try simp only [Act.put]
      refine wpAny_done (by kernel_rfl) ?_ _
      gi_wp2
      exact ⟨K5.out, K6.out, K7.out⟩
    · try simp only [Go.wp_at_succ, Go.wp_at_zero]
      go_simp
      refine (HC.out _ B0).mono ?_
      rintro e w1 ⟨ua, uc, rfl, hu, hb1⟩
      have U1 := Lib.hid hu
      have B1 := Lib.hid hb1
      have c1 : w1.cell? ⟨w.heap.size, 0, none⟩ = some (.slice va pre.length vc) := (hb1.cell (p := ⟨w.heap.size, 0, none⟩) HV.out.lt).trans HV.out.cell
      have hlw : w.heap.size < w1.heap.size := Nat.lt_of_lt_of_le HV.out.lt hb1.size
      clear hu hb1
      first | (with_reducible refine hK _ _ ?_) | (go_wp2_with fail; with_reducible refine hK _ _ ?_)
      clear hK K
      try simp only [Act.put, List.setIfInBounds_toArray, List.set_cons_zero, List.set_cons_succ]
      refine wpAny_ready (rs := [0, 3]) (by kernel_rfl) (by simp) (AllReady.cons rfl (fun K hK => ?_) (AllReady.cons rfl (fun K hK => ?_) AllReady.nil))
      · try simp only [Go.wp_at_zero]
        go_simp
        with_reducible refine hK _ _ ?_
        clear hK K
        try simp only [Act.put, List.setIfInBounds_toArray, List.set_cons_zero, List.set_cons_succ]
        refine wpAny_ready (rs := [3]) (by kernel_rfl) (by simp) (AllReady.cons rfl (fun K hK => ?_) AllReady.nil)
        try simp only [Go.wp_at_succ, Go.wp_at_zero]
        go_simp
        with_reducible refine hK _ _ ?_
        clear hK K
        try simp only [Act.put, List.setIfInBounds_toArray, List.set_cons_zero, List.set_cons_succ]
        refine wpAny_ready (rs := [4]) (by kernel_rfl) (by simp) (AllReady.cons rfl (fun K hK => ?_) AllReady.nil)
        refine wal_step_append rfl (.tmp 12) (.tmp 15) 27 27 rfl (w.heap.size + 3) 22 i1 (.slice none 0 0) 1 24 Try.underlying27 hi hz0 hz1 hz2 rfl _ pre.length vals rfl (ownsRow_on HROW.out fun b hb => (B1.out.alloc B1.out.size _).block b (HROW.out.lt b hb).2) _ 1 [.slice ua xl.length uc] rfl (src_slice w1 _ rfl) (by unfold maxLen; omega) (by omega) (by have := B1.out.size; simp; omega) ?_
        intro v2 w3 hown hgrow
        obtain ⟨⟨k1, k2⟩, ⟨k3, k4⟩, k5, k6, k7⟩ := HN.out w1 w3 _ v2 B1.out U1.out hown hgrow
        have K5 := Lib.hid k5
        have K6 := Lib.hid k6
        have K7 := Lib.hid k7
        obtain ⟨g2, cap2, rfl⟩ := ownsRow_succ hown
        clear k5 k6 k7 hgrow hown
        refine hK _ _ ?_
        clear hK K
        try simp only [Act.put, List.setIfInBounds_toArray]
        refine wpAny_ready (rs := [5]) (by kernel_rfl) (by simp) (AllReady.cons rfl (fun K hK => ?_) AllReady.nil)
        try simp only [Go.wp_at_succ, Go.wp_at_zero]
        go_simp
        with_reducible refine hK _ _ ?_
        clear hK K
        try simp only [Act.put]
        refine wpAny_done (by kernel_rfl) ?_ _
        gi_wp2
        exact ⟨K5.out, K6.out, K7.out⟩
      · try simp only [Go.wp_at_succ, Go.wp_at_zero]
        go_simp
        with_reducible refine hK _ _ ?_
        clear hK K
        try simp only [Act.put, List.setIfInBounds_toArray, List.set_cons_zero, List.set_cons_succ]
        refine wpAny_ready (rs := [0]) (by kernel_rfl) (by simp) (AllReady.cons rfl (fun K hK => ?_) AllReady.nil)
        try simp only [Go.wp_at_zero]
        go_simp
        with_reducible refine hK _ _ ?_
        clear hK K
        try simp only [Act.put, List.setIfInBounds_toArray, List.set_cons_zero, List.set_cons_succ]
        refine wpAny_ready (rs := [4]) (by kernel_rfl) (by simp) (AllReady.cons rfl (fun K hK => ?_) AllReady.nil)
        refine wal_step_append rfl (.tmp 12) (.tmp 15) 27 27 rfl (w.heap.size + 3) 22 i1 (.slice none 0 0) 1 24 Try.underlying27 hi hz0 hz1 hz2 rfl _ pre.length vals rfl (ownsRow_on HROW.out fun b hb => (B1.out.alloc B1.out.size _).block b (HROW.out.lt b hb).2) _ 1 [.slice ua xl.length uc] rfl (src_slice w1 _ rfl) (by unfold maxLen; omega) (by omega) (by have := B1.out.size; simp; omega) ?_
        intro v2 w3 hown hgrow
        obtain ⟨⟨k1, k2⟩, ⟨k3, k4⟩, k5, k6, k7⟩ := HN.out w1 w3 _ v2 B1.out U1.out hown hgrow
        have K5 := Lib.hid k5
        have K6 := Lib.hid k6
        have K7 := Lib.hid k7
        obtain ⟨g2, cap2, rfl⟩ := ownsRow_succ hown
        clear k5 k6 k7 hgrow hown
        refine hK _ _ ?_
        clear hK K
        try simp only [Act.put, List.setIfInBounds_toArray]
        refine wpAny_ready (rs := [5]) (by kernel_rfl) (by simp) (AllReady.cons rfl (fun K hK => ?_) AllReady.nil)
        try simp only [Go.wp_at_succ, Go.wp_at_zero]
        go_simp
        with_reducible refine hK _ _ ?_
        clear hK K
        try simp only [Act.put]
        refine wpAny_done (by kernel_rfl) ?_ _
        gi_wp2
        exact ⟨K5.out, K6.out, K7.out⟩
  case done =>
    rintro D ys W hD hrd ⟨⟨v, hv, hrec⟩, he, hb, hsz⟩ hK
    have c0 := hv.cell
    have c1 := he.cell
    obtain ⟨va, vc, rfl⟩ := hrec.shape
    rw [recsOf_length] at c0
    have HRD := Lib.hid hrd
    have HREC := Lib.hid hrec
    have HK := Lib.hid hK
    clear hrd hrec hv he hK
    gi_wp2_with fail
    refine wpIn_wide.2 ?_
    go_quiet (fail)
    gi_wp2
    have hK : (W.drewN nq).heap[D]? = some (.deferred (some [])) := HK.out
    have hbd : Below w.heap.size w (W.drewN nq) := hb.trans ⟨rfl, rfl, rfl, Nat.le_refl _, fun _ _ => rfl⟩
    have hrd : Recs (W.drewN nq) (w.heap.size + 3) (.slice va ys.length vc) (recsOf ys) := by
      have := HREC.out
      rw [recsOf_length] at this
      exact this.on ⟨rfl, rfl, rfl, Nat.le_refl _, fun _ _ => rfl⟩
    refine ⟨by simp, .inl ⟨_, _, rfl, run_takeDeferred hK, ?_⟩⟩
    refine ⟨.tuple #[.slice va ys.length vc, .int .i64 (endOf ys)], by simp [results, Try.results11, go_sem], recsOf ys, endOf ys, HRD.out, _, rfl, ?_, ?_⟩
    · exact (hrd.grown (grownBy_putObj' _ D (.deferred none)) (fun r e => by cases e; exact ⟨_, hK, rfl⟩)).low (by omega)
    · exact hbd.trans (belowK_b (w := w) (Nat.le_refl _) _ D _ _ (by omega) hK rfl rfl)
  case stop =>
    rintro D c pre W _ _ h _
    exact h.elim

theorem wread_any (v : Value) (B : Nat) (bl : List UInt8) (w : World) (hB : Byt w B v bl) (hBw : B ≤ w.heap.size) (hlim : bl.length ≤ 140737488355) :
    Calls Try.prog 11 #[v] w fun e w' => ∃ L m, Rds bl L m ∧ TellsRd L m w e w' := by
  obtain ⟨a, c, rfl, _⟩ := id hB
  exact callsIn_wide.1 (wread_in 3 B (Nat.le_refl _) a c bl w hB hBw hlim)
end Go.Proofs.Ytpmigpgkicacpaa
