/-
  THE PROGRAM's BAG AND THE REFERENCE's ROW, side by side, with what else stands: each call of either by contract. Of at most a million messages.
-/
import Derived.Test.YtkflkkdfklbfpaaBagR
import Derived.Test.YtkflkkdfklbfpaaItemRC
namespace Go.Proofs.Ytkflkkdfklbfpaa
open Go.RowKit

/-- The program's bag holds L, the reference's row M. -/
structure GPl (n : Nat) (w0 : World) (R : Nat) (L M : List MsgV) (u : World) : Prop where
  bag : BgO n w0 n L u
  ref : ∃ v, RL u n R v M
/-- Every block of neither of them stands as it was. -/
def KA (w w' : World) : Prop := ∀ (x : Nat) (cs : Array Value) (e : TypeId), e ≠ 55 → e ≠ 58 → e ≠ 39 → e ≠ 43 → w.heap[x]? = some (.cells cs e (0, 0)) → w'.heap[x]? = some (.cells cs e (0, 0))
theorem KA.trans {u v w : World} (h : KA u v) (k : KA v w) : KA u w := fun x cs e h1 h2 h3 h4 hx => k x cs e h1 h2 h3 h4 (h x cs e h1 h2 h3 h4 hx)
theorem KA.of {w w' : World} (h : Below w.heap.size w w') : KA w w' := fun x _ _ _ _ _ _ hx => (h.block x (lt_of_block hx)).trans hx
theorem KB.ka {w w' : World} (h : KB w w') : KA w w' := fun x cs e h1 h2 _ _ hx => h x cs e h1 h2 hx
theorem refO_ka {n : Nat} {w w' : World} (h : Only (GS n w) w w') : KA w w' := fun _ _ _ _ _ h3 h4 hx => refO_other h hx h3 h4
theorem KA.row {w w' : World} (h : KA w w') {base : Nat} {e : TypeId} {size : Nat} {v : Value} {m : Nat} {xs : List Value} (hr : w.ownsRow base e size v m xs) (h1 : e ≠ 55) (h2 : e ≠ 58) (h3 : e ≠ 39) (h4 : e ≠ 43) : w'.ownsRow base e size v m xs := by
  refine ⟨hr.1, ?_⟩
  rcases hr.2 with h0 | ⟨q, cap, cur, rfl, hq, hh, rest⟩
  · exact .inl h0
  · exact .inr ⟨q, cap, cur, rfl, hq, h q cur e h1 h2 h3 h4 hh, rest⟩

/-- Block p is a step's. -/
def StpG (u : World) (p : Nat) (kd nn fr td : Int) (bv : Value) : Prop := u.heap[p]? = some (.cells #[.int .i64 kd, .int .i64 nn, .int .i64 fr, .int .i64 td, bv] 41 (0, 0))
theorem StpG.ka {u u' : World} {p : Nat} {kd nn fr td : Int} {bv : Value} (h : StpG u p kd nn fr td bv) (hk : KA u u') : StpG u' p kd nn fr td bv := hk _ _ _ (by decide) (by decide) (by decide) (by decide) h
theorem StpG.cells {u : World} {p : Nat} {kd nn fr td : Int} {bv : Value} (h : StpG u p kd nn fr td bv) :
    u.cell? ⟨p, 0, none⟩ = some (.int .i64 kd) ∧ u.cell? ⟨p, 1, none⟩ = some (.int .i64 nn) ∧ u.cell? ⟨p, 2, none⟩ = some (.int .i64 fr) ∧ u.cell? ⟨p, 3, none⟩ = some (.int .i64 td) ∧ u.cell? ⟨p, 4, none⟩ = some bv := by
  have h' : u.heap[p]? = some (.cells #[.int .i64 kd, .int .i64 nn, .int .i64 fr, .int .i64 td, bv] 41 (0, 0)) := h
  refine ⟨?_, ?_, ?_, ?_, ?_⟩ <;> simp [World.cell?, h']
theorem StpG.lt {u : World} {p : Nat} {kd nn fr td : Int} {bv : Value} (h : StpG u p kd nn fr td bv) : p < u.heap.size := lt_of_block (show u.heap[p]? = _ from h)

section
variable {n : Nat} {w0 u u' : World} {R : Nat} {L M : List MsgV}
theorem GPl.on (h : GPl n w0 R L M u) (hb : Below u.heap.size u u') : GPl n w0 R L M u' := ⟨h.bag.on hb, h.ref.imp fun _ hr => hr.on hb⟩
theorem GPl.drew (h : GPl n w0 R L M u) : GPl n w0 R L M u.drew := h.on ⟨rfl, rfl, rfl, Nat.le_refl _, fun _ _ => rfl⟩
theorem GPl.drewN (h : GPl n w0 R L M u) (q : Nat) : GPl n w0 R L M (u.drewN q) := h.on ⟨rfl, rfl, rfl, Nat.le_refl _, fun _ _ => rfl⟩
theorem GPl.turnB {L' : List MsgV} (h : GPl n w0 R L M u) (hb : BgO n w0 n L' u') (hk : KB u u') : GPl n w0 R L' M u' := ⟨hb, h.ref.imp fun _ hr => hr.kb hk⟩
theorem GPl.turnR {M' : List MsgV} (h : GPl n w0 R L M u) (hr : ∃ v, RL u' n R v M') (ho : Only (GS n u) u u') : GPl n w0 R L M' u' := ⟨h.bag.refO ho, hr⟩
/-- The reference's cell. -/
theorem GPl.cell (h : GPl n w0 R L M u) : ∃ a c, u.cell? ⟨R, 0, none⟩ = some (.slice a M.length c) ∧ u.frozen? ⟨R, 0, none⟩ = false := by
  obtain ⟨v, hr⟩ := h.ref
  obtain ⟨a, c, rfl⟩ := hr.shape
  exact ⟨a, c, hr.cells⟩

theorem GPl.kbcell (h : GPl n w0 R L M u) (hk : KB u u') : u'.cell? ⟨R, 0, none⟩ = u.cell? ⟨R, 0, none⟩ := by
  obtain ⟨v, hr⟩ := h.ref
  have h1 := hr.blk
  have h2 := hk _ _ _ (by decide) (by decide) hr.blk
  simp [World.cell?, h1, h2]
/-- Both stand where a block of another kind alone is written. -/
theorem GPl.other (h : GPl n w0 R L M u) {b : Nat} {cs : Array Value} {e : TypeId} (hb : u.heap[b]? = some (.cells cs e (0, 0))) (h1 : e ≠ 55) (h2 : e ≠ 58) (h3 : e ≠ 39) (h4 : e ≠ 43) (hn : n ≤ b) (ho : Only (· = b) u u') : GPl n w0 R L M u' := by
  refine ⟨h.bag.other hb h1 h2 hn ho, h.ref.imp fun v hr => hr.keepO ho (fun e => ?_) fun x hx e => ?_⟩
  · subst e
    have := hr.blk.symm.trans hb
    simp only [Option.some.injEq, Obj.cells.injEq] at this
    exact h3 this.2.1.symm
  · obtain ⟨_, cs', hc⟩ := row_kind hr.row hx
    subst e
    have := hc.symm.trans hb
    simp only [Option.some.injEq, Obj.cells.injEq] at this
    exact h4 this.2.1.symm
theorem q_len (h : GPl n w0 R L M u) : Calls Try.prog 12 #[.pointer (some ⟨n, 0, none⟩)] u fun e w' => e = .returned (.int .i64 L.length) ∧ u = w' := g_len h.bag
theorem q_add (h : GPl n w0 R L M u) (fr td : Int) {x : Value} {l : List UInt8} {B : Nat} (hy : Byt u B x l) (hB : B ≤ u.heap.size) (hlim : L.length ≤ 1000000) :
    Calls Try.prog 9 #[.pointer (some ⟨n, 0, none⟩), .int .i64 fr, .int .i64 td, x] u fun e w' => e = .returned (.int .i64 L.length) ∧ GPl n w0 R (L ++ [⟨fr, td, ⟨l.toArray⟩⟩]) M w' ∧ KA u w' ∧ w'.cell? ⟨R, 0, none⟩ = u.cell? ⟨R, 0, none⟩ :=
  (g_add h.bag fr td hy hB hlim).mono fun _ _ ⟨he, h1, h2⟩ => ⟨he, h.turnB h1 h2, h2.ka, h.kbcell h2⟩
theorem q_take (h : GPl n w0 R L M u) (k : Nat) (hk : k < L.length) (hlim : L.length ≤ 1000000) (hsz : (mAt L k).tx.size ≤ maxLen) :
    Calls Try.prog 13 #[.pointer (some ⟨n, 0, none⟩), .int .i64 k] u fun e w' => TellsK (mAt L k) e w' ∧ GPl n w0 R (L.take k ++ L.drop (k + 1)) M w' ∧ KA u w' :=
  (g_takeK h.bag k hk hlim hsz).mono fun _ _ ⟨he, h1, h2⟩ => ⟨he, h.turnB h1 h2, h2.ka⟩
theorem q_double (h : GPl n w0 R L M u) (k : Nat) (hk : k < L.length) (hlim : L.length ≤ 1000000) :
    Calls Try.prog 15 #[.pointer (some ⟨n, 0, none⟩), .int .i64 k] u fun e w' => e = .returned (.int .i64 0) ∧ GPl n w0 R (L ++ [mAt L k]) M w' ∧ KA u w' :=
  (g_double h.bag k hk hlim).mono fun _ _ ⟨he, h1, h2⟩ => ⟨he, h.turnB h1 h2, h2.ka⟩
theorem q_drop (h : GPl n w0 R L M u) (k : Nat) (hk : k < L.length) (hlim : L.length ≤ 1000000) :
    Calls Try.prog 16 #[.pointer (some ⟨n, 0, none⟩), .int .i64 k] u fun e w' => e = .returned (.int .i64 0) ∧ GPl n w0 R (L.take k ++ L.drop (k + 1)) M w' ∧ KA u w' :=
  (g_drop h.bag k hk hlim).mono fun _ _ ⟨he, h1, h2⟩ => ⟨he, h.turnB h1 h2, h2.ka⟩
theorem q_lose (h : GPl n w0 R L M u) (who : Int) (hlim : L.length ≤ 1000000) :
    Calls Try.prog 11 #[.pointer (some ⟨n, 0, none⟩), .int .i64 who] u fun e w' => e = .returned (.int .i64 ((L.length : Int) - (rest L who).length)) ∧ GPl n w0 R (rest L who) M w' ∧ KA u w' :=
  (g_lose h.bag who hlim).mono fun _ _ ⟨he, h1, h2⟩ => ⟨he, h.turnB h1 h2, h2.ka⟩
/-- Places are told. -/
def TellsI (X : List Int) (u : World) (e : Ending) (w' : World) : Prop := ∃ a c, e = .returned (.slice a X.length c) ∧ Ints w' w'.heap.size (.slice a X.length c) X ∧ Below u.heap.size u w'
theorem q_to (h : GPl n w0 R L M u) (who : Int) (hlim : L.length ≤ 1000000) : Calls Try.prog 10 #[.pointer (some ⟨n, 0, none⟩), .int .i64 who] u (TellsI (toAt L who L.length) u) := g_to h.bag who hlim
theorem q_rto (h : GPl n w0 R L M u) (who : Int) (hlim : M.length ≤ 1000000) : Calls Try.prog 18 #[.pointer (some ⟨R, 0, none⟩), .int .i64 who] u (TellsI (toAt M who M.length) u) := by
  obtain ⟨v, hr⟩ := h.ref
  exact rto_any hr hlim who
theorem q_rtake (h : GPl n w0 R L M u) (k : Nat) (hk : k < M.length) (hlim : M.length ≤ 1000000) :
    Calls Try.prog 14 #[.pointer (some ⟨R, 0, none⟩), .int .i64 k] u fun e w' => e = .returned (.tuple #[.agg (msgC (mAt M k)).toArray, .bool true]) ∧ GPl n w0 R L (M.take k ++ M.drop (k + 1)) w' ∧ KA u w' := by
  obtain ⟨v, hr⟩ := h.ref
  exact (rtake_any hr h.bag.size k hk hlim).mono fun _ _ ⟨he, h1, h2⟩ => ⟨he, h.turnR h1 h2, refO_ka h2⟩
theorem q_rtake_no (h : GPl n w0 R L M u) (k : Int) (hk : ¬ (0 ≤ k ∧ k < M.length)) :
    Calls Try.prog 14 #[.pointer (some ⟨R, 0, none⟩), .int .i64 k] u fun e w' => e = .returned (.tuple #[.agg #[.int .i64 0, .int .i64 0, .string ⟨#[]⟩], .bool false]) ∧ Below u.heap.size u w' := by
  obtain ⟨v, hr⟩ := h.ref
  exact rtake_no hr k hk
/-- The same, and bytes that were told stand. -/
theorem q_rtakeB (h : GPl n w0 R L M u) (k : Nat) (hk : k < M.length) (hlim : M.length ≤ 1000000) {a : Option Addr} {m c : Nat} {s : ByteArray} (hy : Byt u u.heap.size (.slice a m c) s.data.toList) (hx : ∀ b, a = some b → ∃ cs fz, u.heap[b.block]? = some (.cells cs 5 fz)) :
    Calls Try.prog 14 #[.pointer (some ⟨R, 0, none⟩), .int .i64 k] u fun e w' => e = .returned (.tuple #[.agg (msgC (mAt M k)).toArray, .bool true]) ∧ GPl n w0 R L (M.take k ++ M.drop (k + 1)) w' ∧ ∀ u', Below w'.heap.size w' u' → (convert 28 9 (.slice a m c)).run Try.prog u' = .ok (.string s) u' := by
  obtain ⟨v, hr⟩ := h.ref
  refine (rtake_any hr h.bag.size k hk hlim).mono ?_
  rintro e w' ⟨he, h1, h2⟩
  refine ⟨he, h.turnR h1 h2, fun u' hu' => ?_⟩
  have hy' : Byt w' w'.heap.size (.slice a m c) s.data.toList := by
    obtain ⟨ao, cap, hv, g1, g2, g3, g4⟩ := hy
    simp only [Value.slice.injEq] at hv
    obtain ⟨rfl, rfl, rfl⟩ := hv
    refine ⟨a, c, rfl, g1, g2, g3, fun hl => ?_⟩
    obtain ⟨b, off, rfl, hb, hc⟩ := g4 hl
    refine ⟨b, off, rfl, Nat.lt_of_lt_of_le hb h2.size, fun j hj => (h2.cell (p := ⟨b, off + j, none⟩) hb fun hs => ?_).trans (hc j hj)⟩
    obtain ⟨_, cs, e', hcs, hk'⟩ := hs
    obtain ⟨cs2, fz, hcs2⟩ := hx _ rfl
    have := hcs.symm.trans hcs2
    simp only [Option.some.injEq, Obj.cells.injEq] at this
    obtain ⟨_, rfl, _⟩ := this
    rcases hk' with h | h <;> simp at h
  have := run_conv_byt (hy'.keep hu')
  simpa using this
/-- A row is stored into the reference's. -/
theorem GPl.setR (h : GPl n w0 R L M u) {v' : Value} {M' : List MsgV} (hr : u.ownsRow n 43 3 v' M'.length (rowC M')) : GPl n w0 R L M' (u.setCell ⟨R, 0, none⟩ v') := by
  obtain ⟨v, h1⟩ := h.ref
  exact h.turnR ⟨_, RL.set h1.blk hr h1.low⟩ (h1.only v')
end

theorem toAt_rest_len (L : List MsgV) (who : Int) : ∀ k, k ≤ L.length → (toAt L who k).length + (rest (L.take k) who).length = k := by
  intro k
  induction k with
  | zero => intro _; simp [toAt, rest]
  | succ k ih =>
    intro hk
    have h := ih (by omega)
    have ht : L.take (k + 1) = L.take k ++ [mAt L k] := by
      rw [List.take_add_one]
      unfold mAt
      rw [List.getD_eq_getElem?_getD, List.getElem?_eq_getElem (by omega)]
      rfl
    cases hq : ((mAt L k).to == who) with
    | true => rw [toAt_yes hq, ht, List.length_append, List.length_singleton, show rest (L.take k ++ [mAt L k]) who = rest (L.take k) who by simp [rest, List.filter_append, hq]]; omega
    | false => rw [toAt_no hq, ht, show rest (L.take k ++ [mAt L k]) who = rest (L.take k) who ++ [mAt L k] by simp [rest, List.filter_append, hq], List.length_append, List.length_singleton]; omega

/-- A row of bytes that may be written: the first k cells of block b. -/
def MR (n : Nat) (u : World) (b k : Nat) : Prop := n ≤ b ∧ ∃ cs, u.heap[b]? = some (.cells cs 5 (0, 0)) ∧ ∀ j, j < k → ∃ y : Int, cs[j]? = some (.int .u8 y)
theorem MR.cell {n : Nat} {u : World} {b k : Nat} (h : MR n u b k) {j : Nat} (hj : j < k) : ∃ y : Int, u.cell? ⟨b, j, none⟩ = some (.int .u8 y) ∧ u.frozen? ⟨b, j, none⟩ = false := by
  obtain ⟨_, cs, hb, hc⟩ := h
  obtain ⟨y, hy⟩ := hc j hj
  exact ⟨y, by rw [cell_of_row _ _ _ _ _ _ hb]; exact hy, by simp [World.frozen?, hb]⟩
theorem MR.set {n : Nat} {u : World} {b k : Nat} (h : MR n u b k) (i : Nat) (x : Int) : MR n (u.setCell ⟨b, i, none⟩ (.int .u8 x)) b k := by
  obtain ⟨hn, cs, hb, hc⟩ := h
  refine ⟨hn, _, heap_setCell_same _ _ _ _ _ _ hb, fun j hj => ?_⟩
  obtain ⟨y, hy⟩ := hc j hj
  rw [Array.getElem?_setIfInBounds]
  split
  · split
    · exact ⟨x, rfl⟩
    · rename_i h1 h2
      subst h1
      have := (Array.getElem?_eq_some_iff.1 hy).1
      exact absurd this h2
  · exact ⟨y, hy⟩
theorem mr_own {n base : Nat} {u : World} {a : Option Addr} {k c : Nat} {l : List UInt8} (h : u.ownsRow base 5 1 (.slice a k c) k (Lib.byteCells l)) (hn : n ≤ base) (h0 : 0 < k) : ∃ b, a = some ⟨b, 0, none⟩ ∧ MR n u b k := by
  have hl : l.length = k := by have := h.1; rw [Lib.byteCells_length] at this; omega
  rcases h.2 with ⟨hv, he⟩ | ⟨q, cap, cur, hv, hq, hh, _, _, _, ht⟩
  · omega
  · simp only [Value.slice.injEq] at hv
    obtain ⟨rfl, _, rfl⟩ := hv
    refine ⟨q, rfl, by omega, cur, hh, fun j hj => ⟨((l.getD j 0).toNat : Int), ?_⟩⟩
    · have h1 := byteCells_get l j (by omega)
      rw [← ht, List.getElem?_take, if_pos (by omega)] at h1
      rwa [Array.getElem?_toList] at h1
theorem MR.other {n : Nat} {w0 u : World} {R : Nat} {L M : List MsgV} {b k : Nat} (h : MR n u b k) (hg : GPl n w0 R L M u) (i : Nat) (x : Value) : GPl n w0 R L M (u.setCell ⟨b, i, none⟩ x) := by
  obtain ⟨hn, cs, hb, _⟩ := h
  exact hg.other hb (by decide) (by decide) (by decide) (by decide) hn (Only.set b i u x)
theorem MR.stp {n : Nat} {u : World} {p b k : Nat} {kd nn fr td : Int} {bv : Value} (h : MR n u b k) (hs : StpG u p kd nn fr td bv) (i : Nat) (x : Value) : StpG (u.setCell ⟨b, i, none⟩ x) p kd nn fr td bv := by
  obtain ⟨hn, cs, hb, _⟩ := h
  refine ((Only.set b i u x).block p hs.lt fun e => ?_).trans hs
  subst e
  have := hb.symm.trans (show u.heap[p]? = _ from hs)
  simp at this
theorem gsrc_bytes {w : World} {B : Nat} {v : Value} {l : List UInt8} (h : Byt w B v l) : Src Try.prog 1 28 v l.length (Lib.byteCells l) w := by
  have h' := h
  obtain ⟨ao, cap, rfl, h1, h2, h3, h4⟩ := h
  cases ao with
  | some a => exact byt_src h'
  | none =>
    have hl : l = [] := List.eq_nil_of_length_eq_zero (by have := h3 rfl; omega)
    subst hl
    exact Src.ofNil w Try.underlying28 cap
theorem gown_empty1 {w : World} {base p : Nat} (hp : w.heap[p]? = some (.cells #[] 5 (0, 0))) (hb : base ≤ p) : w.ownsRow base 5 1 (.slice (some ⟨p, 0, none⟩) 0 0) 0 [] :=
  ⟨rfl, .inr ⟨p, 0, #[], rfl, hb, hp, Nat.le_refl _, Nat.zero_le _, rfl, rfl⟩⟩

theorem src_msgG (u : World) (m : MsgV) : Src Try.prog 3 37 (.slice (some ⟨u.heap.size, 0, none⟩) 1 1) 1 (msgC m) (u.alloc (.cells #[.int .i64 m.fr, .int .i64 m.to, .string m.tx] 43)) := by
  have := src_LM (w := u.alloc (.cells #[.int .i64 m.fr, .int .i64 m.to, .string m.tx] 43)) (a := ⟨u.heap.size, 0, none⟩) (m := 1) (c := 1) (L := [m]) rfl (fun j x hj => by
    have hh := heap_alloc_new u (.cells #[.int .i64 m.fr, .int .i64 m.to, .string m.tx] 43)
    rw [Addr.add_lit, Nat.zero_add, cell_of_row _ _ _ _ _ _ hh, ← hj]
    simp [rowC, msgC])
  rwa [rowC_one] at this
/-- What is to be shown at all orders' end is shown once: G is found at the first of them. -/
theorem use_it {G T : Prop} (h : G → T) (g : G) : T := h g
/-- An append whose run is known, as one step of a region that draws. -/
theorem step_append_run {P : Program} {ops : Array Oper} {o : Oper} {a : Act} {w : World} {K : Act → World → Prop} {Q : Exit → Act → World → Prop} {E : Prop} (hgd : o.guard = none) (s x : Operand) (t tx : TypeId)
    (ho : o.op = .call { callee := .builtin .append, args := #[s, x], argTypes := #[t, tx] }) (v xv v' : Value) (w' : World) (hs : a.eval s = v) (hx : a.eval x = xv)
    (hrun : (Builtin.append_ #[t, tx] o.type #[v, xv]).run P w = .ok v' w') (hK : K (a.put o.dst v') w') :
    if Region.wanted o (yielded ops a.tmps) = true then Oper.wp P o a w K Q else E := by
  have hw : Region.wanted o (yielded ops a.tmps) = true := by simp [Region.wanted, hgd]
  rw [if_pos hw]
  unfold Oper.wp
  simp [execOp, ho, resolve, invoke, builtin, hs, hx, hrun, Result.andThen]
  exact hK

/-- A message behind the reference's row: what the append makes, and what is then stored. -/
theorem q_rappend {n : Nat} {w0 u : World} {R : Nat} {L M : List MsgV} (h : GPl n w0 R L M u) (m : MsgV) (hlim : M.length ≤ 1000000) :
    ∃ a c a' c' w', u.cell? ⟨R, 0, none⟩ = some (.slice a M.length c) ∧ R < u.heap.size ∧ w'.cell? ⟨R, 0, none⟩ = some (.slice a M.length c) ∧ w'.frozen? ⟨R, 0, none⟩ = false ∧
      (Builtin.append_ #[37, 37] 37 #[.slice a M.length c, .slice (some ⟨u.heap.size, 0, none⟩) 1 1]).run Try.prog (u.alloc (.cells #[.int .i64 m.fr, .int .i64 m.to, .string m.tx] 43)).drew = .ok (.slice a' (M.length + 1) c') w' ∧
      Hid (GPl n w0 R L (M ++ [m]) (w'.setCell ⟨R, 0, none⟩ (.slice a' (M.length + 1) c'))) ∧ Hid (KA u (w'.setCell ⟨R, 0, none⟩ (.slice a' (M.length + 1) c'))) ∧ Hid (Below n w0 w' ∧ KA u w') := by
  obtain ⟨i0, hi, hz0, hz1, hz2⟩ := info_parts info_LM
  obtain ⟨v, hr⟩ := h.ref
  obtain ⟨a, c, rfl⟩ := hr.shape
  have hU : Below u.heap.size u (u.alloc (.cells #[.int .i64 m.fr, .int .i64 m.to, .string m.tx] 43)).drew := by go_grown
  have hr2 := hr.on hU
  have hg2 := h.on hU
  have hsrc : Src Try.prog 3 37 (.slice (some ⟨u.heap.size, 0, none⟩) 1 1) 1 (msgC m) (u.alloc (.cells #[.int .i64 m.fr, .int .i64 m.to, .string m.tx] 43)).drew := by
    have := src_LM (w := (u.alloc (.cells #[.int .i64 m.fr, .int .i64 m.to, .string m.tx] 43)).drew) (a := ⟨u.heap.size, 0, none⟩) (m := 1) (c := 1) (L := [m]) rfl (fun j x hj => by
      have hh := gnew0 u (.cells #[.int .i64 m.fr, .int .i64 m.to, .string m.tx] 43)
      rw [Addr.add_lit, Nat.zero_add, cell_of_row _ _ _ _ _ _ hh, ← hj]
      simp [rowC, msgC])
    rwa [rowC_one] at this
  obtain ⟨v', w', hrun, h1, hg⟩ := run_append_own_src (P := Try.prog) n 37 37 37 43 i0 (.agg #[.int .i64 0, .int .i64 0, .string ⟨#[]⟩]) 3 32 Try.underlying37 hi hz0 hz1 hz2 rfl (.slice a M.length c) M.length (rowC M) hr2.row _ 1 (msgC m) hsrc (by unfold maxLen; omega) (by omega) (by have := h.bag.size; simp; omega)
  obtain ⟨a', c', rfl⟩ := own_shape h1
  have ho : Only (GS n (u.alloc (.cells #[.int .i64 m.fr, .int .i64 m.to, .string m.tx] 43)).drew) (u.alloc (.cells #[.int .i64 m.fr, .int .i64 m.to, .string m.tx] 43)).drew w' := ⟨hg.os, hg.tape, hg.output, hg.size, fun k hk hne => hg.block k hk fun e => by
    obtain ⟨hb, cs, hc⟩ := row_kind hr2.row e.symm
    exact hne ⟨hb, cs, _, hc, .inr rfl⟩⟩
  have hR' : w'.heap[R]? = some (.cells #[.slice a M.length c] 39 (0, 0)) := (hg.block R hr2.lt (fun e => hr2.ne e.symm rfl)).trans hr2.blk
  have hrow : w'.ownsRow n 43 3 (.slice a' (M.length + 1) c') (M ++ [m]).length (rowC (M ++ [m])) := by rw [List.length_append, List.length_singleton, rowC_append, rowC_one]; exact h1
  refine ⟨a, c, a', c', w', hr.cells.1, hr.lt, by simp [World.cell?, hR'], by simp [World.frozen?, hR'], hrun, ⟨?_, _, RL.set hR' hrow hr.low⟩, ?_, (hg2.bag.refO ho).bel, (KA.of hU).trans (refO_ka ho)⟩
  · have hb := hg2.bag.refO ho
    exact hb.other hR' (by decide) (by decide) hr.low (Only.set R 0 w' _)
  · refine ((KA.of hU).trans (refO_ka ho)).trans fun x cs e _ _ h3 _ hx => ?_
    refine ((Only.set R 0 w' _).block x (lt_of_block hx) fun he => ?_).trans hx
    subst he
    have := hx.symm.trans hR'
    simp at this
    exact h3 this.2
end Go.Proofs.Ytkflkkdfklbfpaa
