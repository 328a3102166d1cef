/-
  THE REFERENCE's ROW OF MESSAGES: its block; Take, To. Of at most a million messages.
-/
import Derived.Test.YtkflkkdfklbfpaaBagArgs
namespace Go.Proofs.Ytkflkkdfklbfpaa
open Go.RowKit

theorem info_LM : (Try.prog.info? 43).map (fun i => (i.zero, i.size, i.bytes)) = some (some (.agg #[.int .i64 0, .int .i64 0, .string ⟨#[]⟩]), 3, 32) := by kernel_rfl

/-- Block R is the reference's row of the messages L; its blocks lie from n on. -/
structure RL (w : World) (n R : Nat) (v : Value) (L : List MsgV) : Prop where
  blk : w.heap[R]? = some (.cells #[v] 39 (0, 0))
  row : w.ownsRow n 43 3 v L.length (rowC L)
  low : n ≤ R
/-- A block of the reference's, from n on. -/
def GS (n : Nat) (w : World) (x : Nat) : Prop := n ≤ x ∧ ∃ cs e, w.heap[x]? = some (.cells cs e (0, 0)) ∧ (e = 39 ∨ e = 43)
section
variable {w w' : World} {n R : Nat} {v : Value} {L : List MsgV}
theorem RL.lt (h : RL w n R v L) : R < w.heap.size := lt_of_block h.blk
theorem RL.cells (h : RL w n R v L) : w.cell? ⟨R, 0, none⟩ = some v ∧ w.frozen? ⟨R, 0, none⟩ = false := by
  have h' := h.blk
  refine ⟨?_, ?_⟩ <;> simp [World.cell?, World.frozen?, h']
theorem RL.on (h : RL w n R v L) (hb : Below w.heap.size w w') : RL w' n R v L := ⟨(hb.block R h.lt).trans h.blk, ownsRow_at h.row hb, h.low⟩
theorem RL.kb (h : RL w n R v L) (hk : KB w w') : RL w' n R v L := ⟨hk _ _ _ (by decide) (by decide) h.blk, hk.row h.row (by decide) (by decide), h.low⟩
theorem RL.ne (h : RL w n R v L) {b : Nat} (hb : v.ownBlock = some b) : b ≠ R := fun e => by
  obtain ⟨_, cs, hc⟩ := row_kind h.row hb
  subst e
  have := hc.symm.trans h.blk
  simp at this
theorem RL.shape (h : RL w n R v L) : ∃ a c, v = .slice a L.length c := own_shape h.row
/-- Where the messages lie. -/
theorem RL.at (h : RL w n R v L) (h0 : 0 < L.length) : ∃ b c, v = .slice (some ⟨b, 0, none⟩) L.length c ∧ L.length ≤ c ∧ c ≤ maxLen ∧ n ≤ b ∧ b < w.heap.size ∧
    (∀ j u, (rowC L)[j]? = some u → w.cell? ⟨b, j, none⟩ = some u) := by
  rcases h.row.2 with ⟨_, he⟩ | ⟨q, cap, cur, rfl, hq, hh, h1, h2, _⟩
  · omega
  · refine ⟨q, cap, rfl, h1, h2, hq, lt_of_block hh, fun j u hu => ?_⟩
    have := h.row.cells (g := q) rfl j u hu
    rwa [Addr.add_lit, Nat.zero_add] at this
theorem RL.set {v' : Value} {L' : List MsgV} (hR : w.heap[R]? = some (.cells #[v] 39 (0, 0))) (hr : w.ownsRow n 43 3 v' L'.length (rowC L')) (hn : n ≤ R) : RL (w.setCell ⟨R, 0, none⟩ v') n R v' L' := by
  refine ⟨by rw [heap_setCell_same _ _ _ _ _ _ hR]; rfl, ?_, hn⟩
  refine ⟨hr.1, ?_⟩
  rcases hr.2 with h0 | ⟨q, cap, cur, rfl, hq, hh, rest⟩
  · exact .inl h0
  · refine .inr ⟨q, cap, cur, rfl, hq, ((Only.set R 0 w _).block q (lt_of_block hh) fun e => ?_).trans hh, rest⟩
    subst e
    have := hh.symm.trans hR
    simp at this
theorem BgO.refO {w0 : World} {g : Nat} {M : List MsgV} (h : BgO n w0 g M w) (ho : Only (GS n w) w w') : BgO n w0 g M w' := by
  obtain ⟨x, g1, g2, g3⟩ := h
  refine ⟨x, g1.keep ho fun y hy he => ?_, Nat.le_trans g2 ho.size, ho.below g3 (fun y hy => hy.1) g2⟩
  obtain ⟨_, cs, e, hc, hk⟩ := he
  obtain ⟨cs', e', h4, h5⟩ := g1.kind y hy
  have := h4.symm.trans hc
  simp only [Option.some.injEq, Obj.cells.injEq] at this
  obtain ⟨_, rfl, _⟩ := this
  rcases h5 with rfl | rfl <;> rcases hk with h | h <;> simp at h
/-- A block of another kind stands where the reference alone is written. -/
theorem refO_other (ho : Only (GS n w) w w') {p : Nat} {cs : Array Value} {e : TypeId} (hp : w.heap[p]? = some (.cells cs e (0, 0))) (h1 : e ≠ 39) (h2 : e ≠ 43) : w'.heap[p]? = some (.cells cs e (0, 0)) := by
  refine (ho.block p (lt_of_block hp) fun hx => ?_).trans hp
  obtain ⟨_, cs', e', hc, hk⟩ := hx
  have := hp.symm.trans hc
  simp only [Option.some.injEq, Obj.cells.injEq] at this
  obtain ⟨_, rfl, _⟩ := this
  rcases hk with h | h
  · exact h1 h
  · exact h2 h
theorem RL.only (h : RL w n R v L) (v' : Value) : Only (GS n w) w (w.setCell ⟨R, 0, none⟩ v') := (Only.set R 0 w v').mono fun x _ hx => by rw [hx]; exact ⟨h.low, _, _, h.blk, .inl rfl⟩
end

theorem RL.keepO {w w' : World} {n R : Nat} {v : Value} {L : List MsgV} {S : Nat → Prop} (h : RL w n R v L) (ho : Only S w w') (h1 : ¬ S R) (h2 : ∀ b, v.ownBlock = some b → ¬ S b) : RL w' n R v L := by
  refine ⟨(ho.block R h.lt h1).trans h.blk, ?_, h.low⟩
  refine ⟨h.row.1, ?_⟩
  rcases h.row.2 with h0 | ⟨q, cap, cur, rfl, hq, hh, rest⟩
  · exact .inl h0
  · exact .inr ⟨q, cap, cur, rfl, hq, (ho.block q (lt_of_block hh) (h2 q rfl)).trans hh, rest⟩

/-! ### append -/
theorem gnew0 (w : World) (o : Obj) : (w.alloc o).drew.heap[w.heap.size]? = some o := heap_alloc_new w o
theorem gstep_append {P : Program} {ops : Array Oper} {o : Oper} {a : Act} {w : World} {K : Act → World → Prop} {Q : Exit → Act → World → Prop} {E : Prop} (hgd : o.guard = none) (s x : Operand) (t tx : TypeId)
    (ho : o.op = .call { callee := .builtin .append, args := #[s, x], argTypes := #[t, tx] })
    (base : Nat) (e : TypeId) (i : TypeInfo) (z : Value) (size bytes : Nat) (ht : P.underlying t = some (.slice e)) (hi : P.info? e = some i) (hz : i.zero = some z)
    (hsize : i.size = size) (hby : i.bytes = bytes) (hzs : z.cells.size = size)
    (v : Value) (n : Nat) (xs : List Value) (hs : a.eval s = v) (hown : w.ownsRow base e size v n xs)
    (xv : Value) (m : Nat) (news : List Value) (hx : a.eval x = xv) (hsrc : Src P size tx xv m news w)
    (h63 : n + m ≤ maxLen) (hbytes : (n + m) * bytes ≤ 140737488355328) (hbase : base ≤ w.heap.size)
    (hK : ∀ v' w', w'.ownsRow base e size v' (n + m) (xs ++ news) → w.grownBy w' v.ownBlock → K (a.put o.dst v') w') :
    if Region.wanted o (yielded ops a.tmps) = true then Oper.wp P o a w K Q else E := by
  have hw : Region.wanted o (yielded ops a.tmps) = true := by simp [Region.wanted, hgd]
  rw [if_pos hw]
  obtain ⟨v', w', hrun, h1, h2⟩ := run_append_own_src (P := P) base t tx o.type e i z size bytes ht hi hz hsize hby hzs v n xs hown xv m news hsrc h63 hbytes hbase
  unfold Oper.wp
  simp [execOp, ho, resolve, invoke, builtin, hs, hx, hrun, Result.andThen]
  exact hK _ _ h1 h2
theorem src_LM {w : World} {a : Addr} {m c : Nat} {L : List MsgV} (hm : L.length = m) (h : ∀ j u, (rowC L)[j]? = some u → w.cell? (a.add j) = some u) : Src Try.prog 3 37 (.slice (some a) m c) m (rowC L) w :=
  Src.ofSlice _ Try.underlying37 a m c (rowC L) (by rw [rowC_length, hm]) h fun _ hu => mem_rowC hu
theorem own_empty3 {w : World} {base p : Nat} (hp : w.heap[p]? = some (.cells #[] 43 (0, 0))) (hb : base ≤ p) : w.ownsRow base 43 3 (.slice (some ⟨p, 0, none⟩) 0 0) 0 (rowC []) :=
  ⟨rfl, .inr ⟨p, 0, #[], rfl, hb, hp, Nat.le_refl _, Nat.zero_le _, rfl, rfl⟩⟩

/-! ### To -/
set_option maxHeartbeats 4000000 in
theorem rto_any {w : World} {n R : Nat} {v : Value} {L : List MsgV} (H : RL w n R v L) (hlim : L.length ≤ 1000000) (who : Int) :
    Calls Try.prog 18 #[.pointer (some ⟨R, 0, none⟩), .int .i64 who] w fun e w' => ∃ a c, e = .returned (.slice a (toAt L who L.length).length c) ∧ Ints w' w'.heap.size (.slice a (toAt L who L.length).length c) (toAt L who L.length) ∧ Below w.heap.size w w' := by
  obtain ⟨i0, hi, hz0, hz1, hz2⟩ := info_parts ginfo_int
  obtain ⟨c0, z0⟩ := H.cells
  have hR := H.lt
  obtain ⟨va, vc, rfl⟩ := H.shape
  have HA := Lib.hid (fun h0 => H.at h0)
  obtain ⟨len, hlen⟩ : ∃ len, len = L.length := ⟨_, rfl⟩
  rw [← hlen] at c0 HA ⊢
  have HL := Lib.hid hlen
  have C0 := Lib.hid c0
  have hlim' : len ≤ 1000000 := by omega
  clear H hlen hlim z0 c0
  go_enter Try.func18, Try.ntmps18
  go_wp2_with fail
  go_loopw [5, 6] (fun s5 s6 wr => ∃ (k m : Nat) (a : Option Addr) (c : Nat), s6 = .int .i64 k ∧ k ≤ len ∧ s5 = .slice a m c ∧ Hid (m = (toAt L who k).length) ∧ Hid (wr.ownsRow w.heap.size 3 1 (.slice a m c) m (intCells (toAt L who k))) ∧ Below w.heap.size w wr) (fun _ s6 _ => len - (intOf s6).toNat)
  case atStart => exact ⟨0, 0, none, 0, rfl, Nat.zero_le _, rfl, (show _ = _ from rfl), World.ownsRow_nil _ _ _ _, Below.refl _ _⟩
  case round =>
    obtain ⟨k, m, a, c, rfl, hk, rfl, HN, HR, hb⟩ := hrel
    have HB := Lib.hid hb
    have d0 := (hb.cell (p := ⟨R, 0, none⟩) hR).trans C0.out
    clear hb
    by_cases hlt : k < len
    · obtain ⟨b, c2, hv, hc1, hc2, _, hbw, hc⟩ := HA.out (by omega)
      cases hv
      have q1 := (HB.out.cell (p := ⟨b, k * 3 + 1, none⟩) hbw).trans (hc _ _ (rowC_get L k (by have := HL.out; omega)).2.1)
      have k1 : (k : Int) < (len : Int) := by omega
      have k0 : (0 : Int) ≤ (k : Int) := by omega
      have hmk : m ≤ k := by have := HN.out; have := toAt_le L who k; omega
      clear hc
      cases hq : ((mAt L k).to == who) with
      | true =>
        have HE := Lib.hid (toAt_yes hq)
        generalize (mAt L k).to = y at q1 hq
        go_wp2_with (at_builtin; refine wpList_append_own_src rfl (.tmp 26) (.tmp 28) 22 22 rfl w.heap.size 3 i0 (.int .i64 0) 1 8 Try.underlying22 hi hz0 hz1 hz2 rfl _ _ _ rfl (HR.out.alloc _) _ 1 [Value.int .i64 (k : Int)] rfl (gsrc1 wr _) ?c3 ?c4 ?c5 ?_)
        case c3 => unfold maxLen; omega
        case c4 => omega
        case c5 => have := HB.out.size; simp; omega
        intro v3 w3 h3 g3
        obtain ⟨a3, c3, rfl⟩ := own_shape h3
        have H3 := Lib.hid h3
        have G3 : Hid (Below w.heap.size w w3) := (HB.out.alloc HB.out.size _).grown g3 (by have := HB.out.size; simp; omega) (fun b hb => (HR.out.lt b hb).1)
        clear h3 g3
        go_wp2
        go_roundw
        case rel => exact ⟨k + 1, m + 1, a3, c3, by go_num, by omega, rfl, (show _ = _ by rw [HE.out, List.length_append, HN.out]; rfl), by rw [HE.out, show intCells (toAt L who k ++ [(k : Int)]) = intCells (toAt L who k) ++ [Value.int .i64 (k : Int)] by simp [intCells]]; exact H3.out, G3.out⟩
        case measure => simp [intOf]; omega
      | false =>
        have HE := Lib.hid (toAt_no hq)
        generalize (mAt L k).to = y at q1 hq
        go_wp2
        go_roundw
        case rel => exact ⟨k + 1, m, a, c, by go_num, by omega, rfl, (show _ = _ by rw [HE.out]; exact HN.out), by rw [HE.out]; exact HR.out, HB.out⟩
        case measure => simp [intOf]; omega
    · have hle : (len : Int) ≤ (k : Int) := by omega
      obtain rfl : k = len := by omega
      go_wp2
      go_returns
      exact ⟨_, _, by rw [← HN.out]; rfl, by rw [← HN.out]; exact ints_own HR.out (Nat.le_refl _), HB.out⟩

/-! ### Take -/
set_option maxHeartbeats 1000000 in
theorem rtake_no {w : World} {n R : Nat} {v : Value} {L : List MsgV} (H : RL w n R v L) (k : Int) (hk : ¬ (0 ≤ k ∧ k < L.length)) :
    Calls Try.prog 14 #[.pointer (some ⟨R, 0, none⟩), .int .i64 k] w fun e w' => e = .returned (.tuple #[.agg #[.int .i64 0, .int .i64 0, .string ⟨#[]⟩], .bool false]) ∧ Below w.heap.size w w' := by
  obtain ⟨c0, z0⟩ := H.cells
  have hR := H.lt
  obtain ⟨va, vc, rfl⟩ := H.shape
  generalize L.length = len at c0 hk
  clear H
  by_cases h0 : k < 0
  · have d0 : decide (k < 0) = true := by simpa using h0
    go_enter Try.func14, Try.ntmps14
    go_wp2
    refine bodyPost_ret (v := .tuple #[.agg #[.int .i64 0, .int .i64 0, .string ⟨#[]⟩], .bool false]) (by simp [results, Try.results14, go_sem]) rfl ⟨rfl, by go_grown⟩
  · have d0 : decide (k < 0) = false := by simpa using h0
    have d1 : (len : Int) ≤ k := by omega
    go_enter Try.func14, Try.ntmps14
    go_wp2
    refine bodyPost_ret (v := .tuple #[.agg #[.int .i64 0, .int .i64 0, .string ⟨#[]⟩], .bool false]) (by simp [results, Try.results14, go_sem]) rfl ⟨rfl, by go_grown⟩

/-- A block of three cells, for the walk. -/
theorem cells3 {w : World} {r : Nat} {x y z : Value} {T : TypeId} (h : w.heap[r]? = some (.cells #[x, y, z] T (0, 0))) :
    (w.cell? ⟨r, 0, none⟩ = some x ∧ w.cell? ⟨r, 1, none⟩ = some y ∧ w.cell? ⟨r, 2, none⟩ = some z) ∧ w.frozen? ⟨r, 0, none⟩ = false ∧ w.frozen? ⟨r, 1, none⟩ = false ∧ w.frozen? ⟨r, 2, none⟩ = false := by
  refine ⟨⟨?_, ?_, ?_⟩, ?_, ?_, ?_⟩ <;> simp [World.cell?, World.frozen?, h]
/-- The new row is stored, and the message into its own block. -/
theorem rtake_end {w W w2 : World} {n R r : Nat} {v v2 : Value} {L L' : List MsgV} {x y z : Value} (hr : r = w.heap.size) (hn : n ≤ w.heap.size) (BW : Below w.heap.size w W) (HH : RL w n R v L) (hWs : W.heap.size = r + 2)
    (E0 : W.heap[r]? = some (.cells #[.int .i64 0, .int .i64 0, .string ⟨#[]⟩] 43 (0, 0))) (B2 : Below W.heap.size W w2) (O2 : w2.ownsRow W.heap.size 43 3 v2 L'.length (rowC L')) :
    ((((w2.setCell ⟨R, 0, none⟩ v2).setCell ⟨r, 0, none⟩ x).setCell ⟨r, 1, none⟩ y).setCell ⟨r, 2, none⟩ z).cell? ⟨r, 0, none⟩ = some x ∧
    ((((w2.setCell ⟨R, 0, none⟩ v2).setCell ⟨r, 0, none⟩ x).setCell ⟨r, 1, none⟩ y).setCell ⟨r, 2, none⟩ z).cell? ⟨r, 1, none⟩ = some y ∧
    ((((w2.setCell ⟨R, 0, none⟩ v2).setCell ⟨r, 0, none⟩ x).setCell ⟨r, 1, none⟩ y).setCell ⟨r, 2, none⟩ z).cell? ⟨r, 2, none⟩ = some z ∧
    RL ((((w2.setCell ⟨R, 0, none⟩ v2).setCell ⟨r, 0, none⟩ x).setCell ⟨r, 1, none⟩ y).setCell ⟨r, 2, none⟩ z) n R v2 L' ∧ Only (GS n w) w ((((w2.setCell ⟨R, 0, none⟩ v2).setCell ⟨r, 0, none⟩ x).setCell ⟨r, 1, none⟩ y).setCell ⟨r, 2, none⟩ z) := by
  have hRl := HH.lt
  have b2 : Below w.heap.size w w2 := BW.trans (B2.mono BW.size)
  have hR2 : w2.heap[R]? = some (.cells #[v] 39 (0, 0)) := (b2.block R hRl).trans HH.blk
  have hE2 : (w2.setCell ⟨R, 0, none⟩ v2).heap[r]? = some (.cells #[.int .i64 0, .int .i64 0, .string ⟨#[]⟩] 43 (0, 0)) :=
    ((Only.set R 0 w2 v2).block r (by have := B2.size; omega) (by omega)).trans ((B2.block r (by omega)).trans E0)
  obtain ⟨e0, e1, e2⟩ := set3_blk hE2 x y z
  have hrow : w2.ownsRow n 43 3 v2 L'.length (rowC L') := by
    refine ⟨O2.1, ?_⟩
    rcases O2.2 with h0 | ⟨q, cap, cur, hv, hq, h3⟩
    · exact .inl h0
    · exact .inr ⟨q, cap, cur, hv, by omega, h3⟩
  have h3 := Only.set3 (w := w2.setCell ⟨R, 0, none⟩ v2) (Nat.le_refl r) x y z
  have h4 : Only (fun k => k = r) (w2.setCell ⟨R, 0, none⟩ v2) ((((w2.setCell ⟨R, 0, none⟩ v2).setCell ⟨r, 0, none⟩ x).setCell ⟨r, 1, none⟩ y).setCell ⟨r, 2, none⟩ z) := ((Only.set r 0 _ x).trans (Only.set r 1 _ y)).trans (Only.set r 2 _ z)
  refine ⟨e0, e1, e2, (RL.set hR2 hrow HH.low).keepO h4 (by omega) (fun b hb => by have := (O2.lt b hb).1; omega), ?_⟩
  refine (((Only.of (S := GS n w) b2).then (Only.set R 0 w2 v2) fun k _ hk => ?_).then h3 fun k hk hle => by omega)
  rw [hk]
  exact ⟨HH.low, _, _, HH.blk, .inl rfl⟩

set_option maxHeartbeats 4000000 in
set_option maxRecDepth 100000 in
/-- The message at a place is taken out. -/
theorem rtake_any {w : World} {n R : Nat} {v : Value} {L : List MsgV} (H : RL w n R v L) (hn : n ≤ w.heap.size) (k : Nat) (hk : k < L.length) (hlim : L.length ≤ 1000000) :
    Calls Try.prog 14 #[.pointer (some ⟨R, 0, none⟩), .int .i64 k] w fun e w' => e = .returned (.tuple #[.agg (msgC (mAt L k)).toArray, .bool true]) ∧ (∃ v', RL w' n R v' (L.take k ++ L.drop (k + 1))) ∧ Only (GS n w) w w' := by
  obtain ⟨i0, hi, hz0, hz1, hz2⟩ := info_parts info_LM
  obtain ⟨c0, z0⟩ := H.cells
  have hR := H.lt
  have HH := Lib.hid H
  obtain ⟨b, cap, rfl, hc1, hc2, hnb, hbw, hc⟩ := H.at (by omega)
  have hq := rowC_get L k hk
  have q0 := hc _ _ hq.1
  have q1 := hc _ _ hq.2.1
  have q2 := hc _ _ hq.2.2
  have HC := Lib.hid hc
  obtain ⟨len, hlen⟩ : ∃ len, len = L.length := ⟨_, rfl⟩
  rw [← hlen] at c0 hk hlim hc1
  have HL := Lib.hid hlen
  generalize hm : mAt L k = m at q0 q1 q2
  have HMM := Lib.hid hm
  have k0 : (0 : Int) ≤ (k : Int) := by omega
  have k1 : (k : Int) < (len : Int) := by omega
  clear H hc hq hlen hm
  go_enter Try.func14, Try.ntmps14
  go_wp2_with fail
  obtain ⟨W, hW⟩ : ∃ W, W = (w.alloc (.cells #[.int .i64 0, .int .i64 0, .string ⟨#[]⟩] 43)).alloc (.cells #[.int .i64 m.fr, .int .i64 m.to, .string m.tx] 43) := ⟨_, rfl⟩
  obtain ⟨r, hr⟩ : ∃ r, r = w.heap.size := ⟨_, rfl⟩
  have BW : Hid (Below w.heap.size w W) := Lib.hid (by rw [hW]; go_grown)
  have hWs : W.heap.size = r + 2 := by rw [hW, hr]; simp
  have E0 : Hid (W.heap[r]? = some (.cells #[.int .i64 0, .int .i64 0, .string ⟨#[]⟩] 43 (0, 0))) := Lib.hid (by
    rw [hW, hr]
    exact (Below.heap_alloc (w.alloc _) _ _ (by simp)).trans (heap_alloc_new w _))
  have E1 : Hid (W.heap[r + 1]? = some (.cells #[.int .i64 m.fr, .int .i64 m.to, .string m.tx] 43 (0, 0))) := Lib.hid (by
    rw [hW, hr]
    have := heap_alloc_new (w.alloc (.cells #[.int .i64 0, .int .i64 0, .string ⟨#[]⟩] 43)) (.cells #[.int .i64 m.fr, .int .i64 m.to, .string m.tx] 43)
    rwa [show (w.alloc (.cells #[.int .i64 0, .int .i64 0, .string ⟨#[]⟩] 43)).heap.size = w.heap.size + 1 by simp] at this)
  rw [← hW, ← hr]
  have hRr : R < r := by omega
  have hbr : b < r := by omega
  have hnr : n ≤ r := by omega
  have RR := Lib.hid hr
  have d0 := (BW.out.cell (p := ⟨R, 0, none⟩) hR).trans c0
  have CW : Hid (∀ j u, (rowC L)[j]? = some u → W.cell? ⟨b, j, none⟩ = some u) := fun j u hu => (BW.out.cell (p := ⟨b, j, none⟩) hbw).trans (HC.out j u hu)
  have hRW : R < W.heap.size := by omega
  have hbW : b < W.heap.size := by omega
  have D0 := Lib.hid d0
  have HB0 : Hid (W.heap[R]? = some (.cells #[.slice (some ⟨b, 0, none⟩) len cap] 39 (0, 0))) := by
    have := (BW.out.block R hR).trans HH.out.blk
    rwa [← HL.out] at this
  have hlt1 : (L.take k).length = k := by rw [List.length_take]; have := HL.out; omega
  have hld1 : (L.drop (k + 1)).length = len - (k + 1) := by rw [List.length_drop]; have := HL.out; omega
  have HS1 : Hid (∀ u, Below W.heap.size W u → Src Try.prog 3 37 (.slice (some ⟨b, 0, none⟩) k cap) k (rowC (L.take k)) u) := fun u hu =>
    src_LM hlt1 fun j x hj => by
      rw [Addr.add_lit, Nat.zero_add]
      refine (hu.cell (p := ⟨b, j, none⟩) hbW).trans (CW.out j x ?_)
      have h2 : rowC L = rowC (L.take k) ++ rowC (L.drop k) := by rw [← rowC_append, List.take_append_drop]
      rw [h2, List.getElem?_append_left (List.getElem?_eq_some_iff.1 hj).1]
      exact hj
  obtain ⟨ad, hA, hA2⟩ : ∃ ad : Addr, (if cap = k + 1 then some (⟨b, 0, none⟩ : Addr) else some ⟨b, (k + 1) * 3, none⟩) = some ad ∧ (cap = k + 1 ∨ ad = ⟨b, (k + 1) * 3, none⟩) := by
    by_cases h : cap = k + 1
    · exact ⟨_, if_pos h, .inl h⟩
    · exact ⟨_, if_neg h, .inr rfl⟩
  have HS2 : Hid (∀ u, Below W.heap.size W u → Src Try.prog 3 37 (.slice (some ad) (len - (k + 1)) (cap - (k + 1))) (len - (k + 1)) (rowC (L.drop (k + 1))) u) := fun u hu =>
    src_LM hld1 fun j x hj => by
      have hjl : j < (len - (k + 1)) * 3 := by have := (List.getElem?_eq_some_iff.1 hj).1; rwa [rowC_length, hld1] at this
      rcases hA2 with h | rfl
      · omega
      · rw [Addr.add_lit]
        refine (hu.cell (p := ⟨b, (k + 1) * 3 + j, none⟩) hbW).trans (CW.out _ x ?_)
        have h2 : rowC L = rowC (L.take (k + 1)) ++ rowC (L.drop (k + 1)) := by rw [← rowC_append, List.take_append_drop]
        have h3 : (rowC (L.take (k + 1))).length = (k + 1) * 3 := by rw [rowC_length, List.length_take, Nat.min_eq_left (by have := HL.out; omega)]
        rw [h2, ← h3, List.getElem?_append_right (by omega), Nat.add_sub_cancel_left]
        exact hj
  have i1 : (k : Int) ≤ (cap : Int) := by omega
  have i2 : IntKind.i64.wrap ((k : Int) + 1) = (k : Int) + 1 := by rw [IntKind.wrap_i64]; omega
  have i3 : (0 : Int) ≤ (k : Int) + 1 := by omega
  have i4 : (k : Int) + 1 ≤ (len : Int) := by omega
  have i5 : ((k : Int) + 1).toNat = k + 1 := by omega
  have HWS := Lib.hid hWs
  clear hWs
  have LT := Lib.hid hlt1
  have LD := Lib.hid hld1
  clear hW hr c0 q0 q1 q2 HC hA2 hlt1 hld1 z0 hR hbw
  go_region_law (first
    | (refine gstep_append rfl (.tmp 27) (.tmp 33) 37 37 rfl W.heap.size 43 i0 (.agg #[.int .i64 0, .int .i64 0, .string ⟨#[]⟩]) 3 32 Try.underlying37 hi hz0 hz1 hz2 rfl (.slice (some ⟨W.heap.size, 0, none⟩) 0 0) 0 (rowC []) (by simp [Act.eval, Act.put]) (own_empty3 (gnew0 _ _) (Nat.le_refl _)) (.slice (some ⟨b, 0, none⟩) k cap) k (rowC (L.take k)) (by simp [Act.eval, Act.put]) (HS1.out _ (by go_grown)) (by unfold maxLen; omega) (by omega) (by simp) ?_
       intro v1 w1 o1 g1
       obtain ⟨a1, c1, rfl⟩ := own_shape o1
       have O1 := Lib.hid o1
       have B1 : Hid (Below W.heap.size W w1) := Lib.hid (Below.grown (show Below W.heap.size W _ by go_grown) g1 (by simp) (fun x hx => by simp [Value.ownBlock] at hx; omega))
       have d1 := (B1.out.cell (p := ⟨R, 0, none⟩) hRW).trans D0.out
       clear o1 g1)
    | (refine gstep_append rfl (.tmp 34) (.tmp 41) 37 37 rfl W.heap.size 43 i0 (.agg #[.int .i64 0, .int .i64 0, .string ⟨#[]⟩]) 3 32 Try.underlying37 hi hz0 hz1 hz2 rfl _ (0 + k) (rowC [] ++ rowC (L.take k)) (by simp [Act.eval, Act.put]) O1.out (.slice (some ad) (len - (k + 1)) (cap - (k + 1))) (len - (k + 1)) (rowC (L.drop (k + 1))) (by simp [Act.eval, Act.put]) (HS2.out _ B1.out) (by unfold maxLen; omega) (by omega) B1.out.size ?_
       intro v2 w2 o2 g2
       obtain ⟨a2, c2, rfl⟩ := own_shape o2
       have O2 := Lib.hid o2
       have B2 : Hid (Below W.heap.size W w2) := Lib.hid (Below.grown B1.out g2 B1.out.size (fun x hx => (O1.out.lt x hx).1))
       have d2 := (B2.out.cell (p := ⟨R, 0, none⟩) hRW).trans D0.out
       have z2 : w2.frozen? ⟨R, 0, none⟩ = false := by
         have h := (B2.out.block R hRW).trans HB0.out
         simp [World.frozen?, h]
       clear o2 g2))
  all_goals
    have hO : w2.ownsRow W.heap.size 43 3 (.slice a2 (k + (len - (k + 1))) c2) (L.take k ++ L.drop (k + 1)).length (rowC (L.take k ++ L.drop (k + 1))) := by
      have h := O2.out
      rw [Nat.zero_add] at h
      rwa [List.length_append, LT.out, LD.out, rowC_append]
    have F := fun x y z => rtake_end (x := x) (y := y) (z := z) RR.out hn BW.out HH.out HWS.out E0.out B2.out hO
    have F := Lib.hid F
    obtain ⟨⟨a0', a1', a2'⟩, f0, f1, f2⟩ := cells3 ((B2.out.block r (by have := HWS.out; omega)).trans E0.out)
    obtain ⟨⟨m0, m1, m2⟩, _⟩ := cells3 ((B2.out.block (r + 1) (by have := HWS.out; omega)).trans E1.out)
    clear hO HS1 HS2 CW hA d0 d1 d2 z2 D0 hRW hbW
    go_wp2
    obtain ⟨e0, e1, e2, h1, h2⟩ := F.out (.int .i64 m.fr) (.int .i64 m.to) (.string m.tx)
    refine bodyPost_ret (v := .tuple #[.agg (msgC m).toArray, .bool true]) (by simp only [results, Try.results14]; simp [go_sem, e0, e1, e2, msgC]) rfl ⟨rfl, ⟨_, h1⟩, h2⟩
end Go.Proofs.Ytkflkkdfklbfpaa
