/-
  A BAG IN MEMORY: its block and its row; New, Len, what has a place; add, at. No condition but that lengths stay below a million.
-/
import Derived.Test.YtkflkkdfklbfpaaBagV
import Derived.Deep.DeepCutAuto
import Derived.BigRegion
import Derived.Deep.RegionWith
namespace Go.Proofs.Ytkflkkdfklbfpaa
open Go.RowKit

/-- Block g is a bag that holds the messages L; v is its row; all of it lies from block n on. -/
structure Bg (w : World) (n g : Nat) (v : Value) (L : List MsgV) : Prop where
  blk : w.heap[g]? = some (.cells #[v] 55 (0, 0))
  row : Rw w n v L
  low : n ≤ g
/-- The blocks of a bag. -/
def bblks (g : Nat) (v : Value) (x : Nat) : Prop := x = g ∨ rblk v x

section
variable {w w' : World} {n g : Nat} {v : Value} {L : List MsgV}
theorem Bg.cells (H : Bg w n g v L) : w.cell? ⟨g, 0, none⟩ = some v ∧ w.frozen? ⟨g, 0, none⟩ = false := by
  have H' := H.blk
  refine ⟨?_, ?_⟩ <;> simp [World.cell?, World.frozen?, H']
theorem Bg.lt (H : Bg w n g v L) : g < w.heap.size := lt_of_block H.blk
theorem Bg.ne (H : Bg w n g v L) : ¬ rblk v g := fun hx => by
  obtain ⟨_, cs, h⟩ := H.row.kind hx
  have := h.symm.trans H.blk
  simp at this
theorem Bg.all (H : Bg w n g v L) : ∀ x, bblks g v x → n ≤ x ∧ x < w.heap.size := by
  rintro x (rfl | hx)
  · exact ⟨H.low, H.lt⟩
  · exact ⟨(H.row.kind hx).1, H.row.lt hx⟩
theorem Bg.kind (H : Bg w n g v L) : ∀ x, bblks g v x → ∃ cs e, w.heap[x]? = some (.cells cs e (0, 0)) ∧ (e = 55 ∨ e = 58) := by
  rintro x (rfl | hx)
  · exact ⟨_, _, H.blk, .inl rfl⟩
  · obtain ⟨_, cs, h⟩ := H.row.kind hx
    exact ⟨_, _, h, .inr rfl⟩
theorem Bg.keep {S : Nat → Prop} (H : Bg w n g v L) (ho : Only S w w') (hs : ∀ x, bblks g v x → ¬ S x) : Bg w' n g v L :=
  ⟨(ho.block g H.lt (hs g (.inl rfl))).trans H.blk, H.row.keep ho fun x hx => hs x (.inr hx), H.low⟩
theorem Bg.on (H : Bg w n g v L) (hb : Below w.heap.size w w') : Bg w' n g v L := H.keep (S := fun _ => False) (.of hb) fun _ _ h => h
theorem Bg.shape (H : Bg w n g v L) : ∃ a c, v = .slice a L.length c ∧ L.length ≤ c ∧ c ≤ maxLen := H.row.shape
/-- The row is stored into the bag. -/
theorem Bg.set {v' : Value} {L' : List MsgV} (hg : w.heap[g]? = some (.cells #[v] 55 (0, 0))) (hr : Rw w n v' L') (hn : n ≤ g) : Bg (w.setCell ⟨g, 0, none⟩ v') n g v' L' := by
  refine ⟨?_, hr.keep (Only.set g 0 w _) fun x hx e => ?_, hn⟩
  · rw [heap_setCell_same _ _ _ _ _ _ hg]; rfl
  · obtain ⟨_, cs, h⟩ := hr.kind hx
    subst e
    have := h.symm.trans hg
    simp at this
end

/-- A bag has been turned: it holds the messages L; no block of others has turned. -/
def BR (n g : Nat) (v : Value) (L : List MsgV) (w w' : World) : Prop := ∃ v', Bg w' n g v' L ∧ Only (bblks g v) w w'

set_option maxHeartbeats 400000 in
theorem bgnew_any (w : World) : Calls Try.prog 7 #[] w fun e w' => e = .returned (.pointer (some ⟨w.heap.size, 0, none⟩)) ∧ Bg w' w.heap.size w.heap.size (.slice none 0 0) [] ∧ Below w.heap.size w w' := by
  go_enter Try.func7, Try.ntmps7
  go_wp2
  go_returns
  exact ⟨rfl, ⟨heap_alloc_new w _, .inl ⟨rfl, rfl⟩, Nat.le_refl _⟩, (Below.refl _ _).alloc (Nat.le_refl _) _⟩

set_option maxHeartbeats 400000 in
theorem rwsize_any {w : World} {n g : Nat} {v : Value} {L : List MsgV} (H : Bg w n g v L) : Calls Try.prog 23 #[.pointer (some ⟨g, 0, none⟩)] w fun e w' => e = .returned (.int .i64 L.length) ∧ w = w' := by
  obtain ⟨c0, z0⟩ := H.cells
  obtain ⟨a, c, rfl, _⟩ := H.shape
  clear H
  go_enter Try.func23, Try.ntmps23
  go_wp2
  go_returns
  exact ⟨rfl, rfl⟩
set_option maxHeartbeats 400000 in
theorem bglen_any {w : World} {n g : Nat} {v : Value} {L : List MsgV} (H : Bg w n g v L) : Calls Try.prog 12 #[.pointer (some ⟨g, 0, none⟩)] w fun e w' => e = .returned (.int .i64 L.length) ∧ w = w' := by
  have HS := Lib.hid (rwsize_any H)
  clear H
  go_enter Try.func12, Try.ntmps12
  go_wp2_with fail
  refine HS.out.mono ?_
  rintro e w1 ⟨rfl, rfl⟩
  go_wp2
  go_returns
  exact ⟨rfl, rfl⟩
set_option maxHeartbeats 400000 in
theorem bglen_nil (w : World) : Calls Try.prog 12 #[.pointer none] w fun e w' => e = .returned (.int .i64 0) ∧ w = w' := by
  go_enter Try.func12, Try.ntmps12
  go_wp2
  go_returns
  exact ⟨rfl, rfl⟩
set_option maxHeartbeats 400000 in
theorem bghas_len {p : Value} {w : World} {n : Nat} (H : Calls Try.prog 12 #[p] w fun e w' => e = .returned (.int .i64 n) ∧ w = w') (k : Int) : Calls Try.prog 24 #[p, .int .i64 k] w fun e w' => e = .returned (.bool (decide (0 ≤ k ∧ k < n))) ∧ w = w' := by
  have HS := Lib.hid H
  clear H
  by_cases h0 : 0 ≤ k
  · have d0 : decide (0 ≤ k) = true := by simpa using h0
    go_enter Try.func24, Try.ntmps24
    go_wp2_with fail
    refine HS.out.mono ?_
    rintro e w1 ⟨rfl, rfl⟩
    go_wp2
    go_returns
    refine ⟨?_, rfl⟩
    simp
    omega
  · have d0 : decide (0 ≤ k) = false := by simpa using h0
    go_enter Try.func24, Try.ntmps24
    go_wp2
    go_returns
    exact ⟨rfl, rfl⟩

set_option maxHeartbeats 400000 in
theorem rwat_any {w : World} {n g : Nat} {v : Value} {L : List MsgV} (H : Bg w n g v L) (k : Nat) (hk : k < L.length) (hlim : L.length ≤ 1000000) :
    Calls Try.prog 26 #[.pointer (some ⟨g, 0, none⟩), .int .i64 k] w fun e w' => e = .returned (.agg (msgC (mAt L k)).toArray) ∧ Below w.heap.size w w' := by
  obtain ⟨c0, z0⟩ := H.cells
  have hgl := H.lt
  have hr := H.row
  rcases hr with ⟨rfl, rfl⟩ | ⟨b, o, sp, pre, post, rfl, hb, hh, h1, h2, hm⟩
  · simp at hk
  have hc := row_cells hh k hk
  have hbw := lt_of_block hh
  rw [h1] at hc
  obtain ⟨q0, q1, q2⟩ := hc
  have k0 : (0 : Int) ≤ (k : Int) := by omega
  have k1 : (k : Int) < (L.length : Int) := by omega
  generalize L.length = len at c0 k1
  clear H hh h1 h2 hm hk
  go_enter Try.func26, Try.ntmps26
  go_wp2
  refine bodyPost_ret (v := .agg (msgC (mAt L k)).toArray) (by simp [results, Try.results26, go_sem]; rfl) rfl ⟨rfl, by go_grown⟩

theorem src_blk3 {u : World} {p : Nat} {m : MsgV} (hh : u.heap[p]? = some (.cells (msgC m).toArray 58 (0, 0))) : Src Try.prog 3 51 (.slice (some ⟨p, 0, none⟩) 1 1) 1 (msgC m) u := by
  refine Src.ofSlice _ Try.underlying51 ⟨p, 0, none⟩ 1 1 (msgC m) rfl ?_ fun u hu => mem_rowC (L := [m]) (by rw [rowC_one]; exact hu)
  intro j x hj
  rw [Addr.add_lit, Nat.zero_add, cell_of_row _ _ _ _ _ _ hh, List.getElem?_toArray]
  exact hj
theorem gnew1 (w : World) (o1 o2 : Obj) : ((w.alloc o1).alloc o2).drew.heap[w.heap.size + 1]? = some o2 := by
  have := heap_alloc_new (w.alloc o1) o2
  rwa [show (w.alloc o1).heap.size = w.heap.size + 1 by simp] at this
theorem step_append_rw {ops : Array Oper} {o : Oper} {a : Act} {w : World} {K : Act → World → Prop} {Q : Exit → Act → World → Prop} {E : Prop} (hgd : o.guard = none) (s x : Operand)
    (ho : o.op = .call { callee := .builtin .append, args := #[s, x], argTypes := #[51, 51] })
    (n : Nat) (v : Value) (L : List MsgV) (hs : a.eval s = v) (H : Rw w n v L) (hn : n ≤ w.heap.size) (xv : Value) (m : MsgV) (hx : a.eval x = xv) (hsrc : Src Try.prog 3 51 xv 1 (msgC m) w) (hlim : L.length ≤ 1000000)
    (hK : ∀ v' w', Rw w' n v' (L ++ [m]) → Only (rblk v) w w' → K (a.put o.dst v') w') :
    if Region.wanted o (yielded ops a.tmps) = true then Oper.wp Try.prog o a w K Q else E := by
  have hw : Region.wanted o (yielded ops a.tmps) = true := by simp [Region.wanted, hgd]
  rw [if_pos hw]
  obtain ⟨v', w', hrun, h1, h2⟩ := run_append_rw H hn o.type xv m hsrc hlim
  unfold Oper.wp
  simp [execOp, ho, resolve, invoke, builtin, hs, hx, hrun, Result.andThen]
  exact hK _ _ h1 h2

set_option maxHeartbeats 1000000 in
theorem rwadd_any {w : World} {n g : Nat} {v : Value} {L : List MsgV} (H : Bg w n g v L) (hn : n ≤ w.heap.size) (m : MsgV) (hlim : L.length ≤ 1000000) :
    Calls Try.prog 19 #[.pointer (some ⟨g, 0, none⟩), .agg (msgC m).toArray] w fun e w' => e = .returned (.int .i64 L.length) ∧ BR n g v (L ++ [m]) w w' := by
  obtain ⟨c0, z0⟩ := H.cells
  have HH := Lib.hid H
  have hgl := H.lt
  clear H
  unfold msgC
  go_enter Try.func19, Try.ntmps19
  go_upto_region 11 with fail
  have HW : Hid (Only (bblks g v) w ((w.alloc (.cells #[.int .i64 m.fr, .int .i64 m.to, .string m.tx] 58)).alloc (.cells #[.int .i64 m.fr, .int .i64 m.to, .string m.tx] 58)).drew) := .of (by go_grown)
  go_region_law (first
    | (refine step_append_rw rfl (.tmp 9) (.tmp 11) rfl n v L (by simp [Act.eval]) (HH.out.on (by go_grown)).row (Nat.le_trans hn (by simp; omega)) _ m (by simp [Act.eval]) (src_blk3 (gnew1 _ _ _)) hlim ?_
       intro v2 w2 hr ho
       obtain ⟨a2, c2, rfl, _⟩ := hr.shape
       have HR := Lib.hid hr
       have HO := Lib.hid ho
       have hg2 := (ho.block g (by simp; omega) HH.out.ne).trans (HH.out.on (by go_grown)).blk
       have x2 : w2.cell? ⟨g, 0, none⟩ = some v := by simp [World.cell?, hg2]
       have z2 : w2.frozen? ⟨g, 0, none⟩ = false := by simp [World.frozen?, hg2]
       have HG := Lib.hid hg2
       clear hr ho hg2))
  all_goals
    go_wp2
    go_returns
    exact ⟨rfl, _, Bg.set HG.out (by have := HR.out; rwa [List.length_append, List.length_singleton] at this) HH.out.low, (HW.out.then HO.out fun x _ hx => .inr hx).then (Only.set g 0 _ _) fun x _ hx => .inl hx⟩
end Go.Proofs.Ytkflkkdfklbfpaa
