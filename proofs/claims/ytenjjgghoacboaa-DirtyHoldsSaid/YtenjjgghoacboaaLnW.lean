/-
  THE LOG's BLOCK (forty cells), its rows and its store; New, isMade, Len, Committed, of, Last, Seq; of nil. No condition but that a log has at most a million requests.
-/
import Derived.Test.YtenjjgghoacboaaLnP
import Derived.Deep.QuietTactic
import Derived.BigQuiet
namespace Go.Proofs.Ytenjjgghoacboaa
open Go.RowKit

theorem Vers.only {S : Nat → Prop} {w w' : World} {B : Nat} {v : Value} {L : List VerV} (h : Vers w B v L) (hB : B ≤ w.heap.size) (hn : ∀ x, S x → x < w.heap.size → NoBool w x) (ho : Only S w w') : Vers w' B v L := by
  obtain ⟨ao, cap, rfl, h1, h2, h3, h4⟩ := h
  refine ⟨ao, cap, rfl, h1, h2, h3, fun hl => ?_⟩
  obtain ⟨c, off, rfl, hcB, hc⟩ := h4 hl
  have hne : ¬ S c := by
    intro hs
    have hpos : 0 < L.length := List.length_pos_iff.2 hl
    exact hn c hs (by omega) _ _ (hc 0 hpos).1
  exact ⟨c, off, rfl, hcB, fun j hj => ⟨(ho.cell (p := ⟨c, off + j * 2, Option.none⟩) (show c < _ by omega) hne).trans (hc j hj).1, (ho.cell (p := ⟨c, off + j * 2 + 1, Option.none⟩) (show c < _ by omega) hne).trans (hc j hj).2⟩⟩
theorem Sto.only {S : Nat → Prop} {y : Lay} {w w' : World} {b : Nat} {s : StoV} (h : Sto y w b s) (hb : ¬ S b) (hn : ∀ x, S x → x < w.heap.size → NoBool w x) (ho : Only S w w') : Sto y w' b s := by
  obtain ⟨f, hk, ht⟩ := h
  exact ⟨f, hk.of (ho.block b hk.lt hb), ht.vers fun v L hv => (hv.only (Nat.le_refl _) hn ho).mono ho.size⟩
theorem Besides.only {b : Nat} {w w' : World} (h : Besides b w w') : Only (· = b) w w' := ⟨h.os, h.tape, h.output, h.size, h.block⟩
theorem grown_only {w w' : World} {r : Option Nat} (h : w.grownBy w' r) : Only (fun x => r = some x) w w' := ⟨h.os, h.tape, h.output, h.size, fun k hk hn => h.block k hk fun e => hn e.symm⟩

/-- The cells of a request; of requests. -/
def reqC (r : ReqV) : List Value := [.int .i64 r.client, .int .i64 r.seq, .int .i64 r.kind, .int .i64 r.id, .int .i64 r.mtch, .string r.data]
def reqCs (L : List ReqV) : List Value := L.flatMap reqC
theorem reqCs_app (L : List ReqV) (r : ReqV) : reqCs L ++ reqC r = reqCs (L ++ [r]) := by simp [reqCs]
theorem reqCs_len (L : List ReqV) : (reqCs L).length = L.length * 6 := by
  induction L with
  | nil => rfl
  | cons r L ih =>
    have e : reqCs (r :: L) = reqC r ++ reqCs L := rfl
    rw [e, List.length_append, ih, List.length_cons]
    show 6 + L.length * 6 = _
    omega
theorem reqCs_get (L : List ReqV) : ∀ k, k < L.length → ∀ j, j < 6 → (reqCs L)[k * 6 + j]? = (reqC (atL L k))[j]? := by
  induction L with
  | nil => intro k hk; simp at hk
  | cons r L ih =>
    intro k hk j hj
    have e : reqCs (r :: L) = reqC r ++ reqCs L := rfl
    have hl : (reqC r).length = 6 := rfl
    rw [e]
    cases k with
    | zero => rw [Nat.zero_mul, Nat.zero_add, List.getElem?_append_left (by omega)]; rfl
    | succ k =>
      rw [List.getElem?_append_right (by omega), hl, show (k + 1) * 6 + j - 6 = k * 6 + j by omega, ih k (by simpa using hk) j hj]
      rfl
theorem reqC_nobool (r : ReqV) : ∀ u ∈ reqC r, ∀ x, u ≠ .bool x := by
  intro u hu x
  simp only [reqC, List.mem_cons, List.not_mem_nil, or_false] at hu
  rcases hu with rfl | rfl | rfl | rfl | rfl | rfl <;> simp
/-- A reply as a row has it. -/
structure RcV where
  code : Int
  ver : Int
  data : ByteArray
  lst : Value
def rcC (r : RcV) : List Value := [.int .i64 r.code, .int .i64 r.ver, .string r.data, r.lst]
def rcCs (K : List RcV) : List Value := K.flatMap rcC
theorem rcCs_app (K : List RcV) (r : RcV) : rcCs K ++ rcC r = rcCs (K ++ [r]) := by simp [rcCs]
def rc0 : RcV := ⟨0, 0, ⟨#[]⟩, .slice none 0 0⟩
theorem rcCs_get (K : List RcV) : ∀ k, k < K.length → ∀ j, j < 4 → (rcCs K)[k * 4 + j]? = (rcC (K.getD k rc0))[j]? := by
  induction K with
  | nil => intro k hk; simp at hk
  | cons r K ih =>
    intro k hk j hj
    have e : rcCs (r :: K) = rcC r ++ rcCs K := rfl
    have hl : (rcC r).length = 4 := rfl
    rw [e]
    cases k with
    | zero => rw [Nat.zero_mul, Nat.zero_add, List.getElem?_append_left (by omega)]; rfl
    | succ k =>
      rw [List.getElem?_append_right (by omega), hl, show (k + 1) * 4 + j - 4 = k * 4 + j by omega, ih k (by simpa using hk) j hj]
      rfl
theorem rcC_nobool (r : RcV) (h : Nil0 r.lst) : ∀ u ∈ rcC r, ∀ x, u ≠ .bool x := by
  intro u hu x
  obtain ⟨ao, cap, he, _⟩ := h
  simp only [rcC, List.mem_cons, List.not_mem_nil, or_false] at hu
  rcases hu with rfl | rfl | rfl | rfl <;> simp [he]

/-- The log's forty cells. -/
def linF (q : Int) (vq : Value) (vp : Nat → Value) (last : Nat → Int) (d : Nat) (vr : Value) (k : Nat) : Value :=
  if k = 0 then .int .i64 q else if k = 1 then vq else if k < 6 then vp (k - 2) else if k < 38 then .int .i64 (last (k - 6)) else if k = 38 then .pointer (some ⟨d, 0, none⟩) else vr
/-- What the reply to the request at a place is. -/
structure RepOf (q : Int) (L : List ReqV) (k : Nat) (r : RcV) : Prop where
  code : r.code = (putA (stoOf q (L.take k)) (atL L k)).code
  ver : r.ver = (putA (stoOf q (L.take k)) (atL L k)).ver
  data : r.data = (putA (stoOf q (L.take k)) (atL L k)).data
  lst : Nil0 r.lst
theorem RepOf.app {q : Int} {L : List ReqV} {k : Nat} {r : RcV} (h : RepOf q L k r) (x : ReqV) (hk : k < L.length) : RepOf q (L ++ [x]) k r := by
  obtain ⟨h1, h2, h3, h4⟩ := h
  have e : (L ++ [x]).take k = L.take k := take_app_le x (by omega)
  exact ⟨by rw [e, atL_app x hk]; exact h1, by rw [e, atL_app x hk]; exact h2, by rw [e, atL_app x hk]; exact h3, h4⟩

/-- The log's blocks. -/
def LB (g d : Nat) (vq vr : Value) (vp : Nat → Value) (x : Nat) : Prop := x = g ∨ x = d ∨ vq.ownBlock = some x ∨ vr.ownBlock = some x ∨ ∃ c, c < 4 ∧ (vp c).ownBlock = some x
/-- A log in memory, its parts each for itself: its block g, its store d, its rows; what lies there is from block n on. -/
structure Raw (w : World) (n g d : Nat) (vq vr : Value) (vp : Nat → Value) (q : Int) (last : Nat → Int) (L : List ReqV) (pls : Nat → List Int) (K : List RcV) (s : StoV) : Prop where
  blk : Blk w g 91 40 (linF q vq vp last d vr)
  row : ORow w n 34 6 vq L.length (reqCs L)
  reps : ORow w n 48 4 vr K.length (rcCs K)
  pl : ∀ c, c < 4 → ORow w n 3 1 (vp c) (pls c).length (intCells (pls c))
  ap : ∀ c c', c < 4 → c' < 4 → c ≠ c' → ∀ b, (vp c).ownBlock = some b → (vp c').ownBlock ≠ some b
  sto : Sto layP w d s
  lowg : n ≤ g
  lowd : n ≤ d
section
variable {w w' : World} {n g d : Nat} {vq vr : Value} {vp : Nat → Value} {q : Int} {last : Nat → Int} {L : List ReqV} {pls : Nat → List Int} {K : List RcV} {s : StoV}
theorem Raw.lt (h : Raw w n g d vq vr vp q last L pls K s) : g < w.heap.size := h.blk.lt
theorem Raw.nobool (h : Raw w n g d vq vr vp q last L pls K s) : NoBool w g := by
  refine h.blk.nobool fun k _ x => ?_
  obtain ⟨a1, c1, e1⟩ := own_shape h.row.own
  obtain ⟨a2, c2, e2⟩ := own_shape h.reps.own
  unfold linF
  split; · simp
  split; · simp [e1]
  split
  · rename_i h6
    obtain ⟨a3, c3, e3⟩ := own_shape (h.pl (k - 2) (by omega)).own
    simp [e3]
  split; · simp
  split; · simp
  simp [e2]
theorem Raw.all (h : Raw w n g d vq vr vp q last L pls K s) {x : Nat} (hx : LB g d vq vr vp x) : NoBool w x ∧ x < w.heap.size ∧ n ≤ x := by
  rcases hx with rfl | rfl | hx | hx | ⟨c, hc, hx⟩
  · exact ⟨h.nobool, h.lt, h.lowg⟩
  · exact ⟨h.sto.noBool, h.sto.lt, h.lowd⟩
  · exact ⟨(h.row.nb x hx).no, (h.row.nb x hx).lt, (h.row.own.lt x hx).1⟩
  · exact ⟨(h.reps.nb x hx).no, (h.reps.nb x hx).lt, (h.reps.own.lt x hx).1⟩
  · exact ⟨((h.pl c hc).nb x hx).no, ((h.pl c hc).nb x hx).lt, ((h.pl c hc).own.lt x hx).1⟩
theorem Raw.keep {S : Nat → Prop} (h : Raw w n g d vq vr vp q last L pls K s) (ho : Only S w w') (hs : ∀ x, LB g d vq vr vp x → ¬ S x) (hn : ∀ x, S x → x < w.heap.size → NoBool w x) : Raw w' n g d vq vr vp q last L pls K s := by
  have hk : ∀ x, LB g d vq vr vp x → w'.heap[x]? = w.heap[x]? := fun x hx => ho.block x (h.all hx).2.1 (hs x hx)
  exact ⟨h.blk.of (hk g (.inl rfl)), h.row.of fun b hb => hk b (.inr (.inr (.inl hb))), h.reps.of fun b hb => hk b (.inr (.inr (.inr (.inl hb)))), fun c hc => (h.pl c hc).of fun b hb => hk b (.inr (.inr (.inr (.inr ⟨c, hc, hb⟩)))), h.ap,
    h.sto.only (hs d (.inr (.inl rfl))) hn ho, h.lowg, h.lowd⟩
theorem Raw.on (h : Raw w n g d vq vr vp q last L pls K s) (hb : Below w.heap.size w w') : Raw w' n g d vq vr vp q last L pls K s := h.keep (S := fun _ => False) (.of hb) (fun _ _ h => h) (fun _ h => h.elim)
theorem Raw.c1 (h : Raw w n g d vq vr vp q last L pls K s) : w.cell? ⟨g, 1, none⟩ = some vq ∧ w.frozen? ⟨g, 1, none⟩ = false := ⟨h.blk.cell 1 (by decide), h.blk.free 1⟩
theorem Raw.cp (h : Raw w n g d vq vr vp q last L pls K s) (c : Nat) (hc : c < 4) : w.cell? ⟨g, 2 + c, none⟩ = some (vp c) ∧ w.frozen? ⟨g, 2 + c, none⟩ = false := by
  refine ⟨?_, h.blk.free _⟩
  rw [h.blk.cell (2 + c) (by omega)]
  unfold linF
  rw [if_neg (by omega), if_neg (by omega), if_pos (by omega), show 2 + c - 2 = c by omega]
theorem Raw.cl (h : Raw w n g d vq vr vp q last L pls K s) (i : Nat) (hi : i < 32) : w.cell? ⟨g, 6 + i, none⟩ = some (.int .i64 (last i)) ∧ w.frozen? ⟨g, 6 + i, none⟩ = false := by
  refine ⟨?_, h.blk.free _⟩
  rw [h.blk.cell (6 + i) (by omega)]
  unfold linF
  rw [if_neg (by omega), if_neg (by omega), if_neg (by omega), if_pos (by omega), show 6 + i - 6 = i by omega]
theorem Raw.cr (h : Raw w n g d vq vr vp q last L pls K s) : w.cell? ⟨g, 39, none⟩ = some vr ∧ w.frozen? ⟨g, 39, none⟩ = false := ⟨h.blk.cell 39 (by decide), h.blk.free 39⟩
theorem Raw.cd (h : Raw w n g d vq vr vp q last L pls K s) : w.cell? ⟨g, 38, none⟩ = some (.pointer (some ⟨d, 0, none⟩)) := h.blk.cell 38 (by decide)
/-- No two of its blocks are one (by their kinds). -/
theorem Raw.kinds (h : Raw w n g d vq vr vp q last L pls K s) : g ≠ d ∧ (∀ b, vq.ownBlock = some b → b ≠ g ∧ b ≠ d ∧ vr.ownBlock ≠ some b ∧ ∀ c, c < 4 → (vp c).ownBlock ≠ some b) ∧ (∀ b, vr.ownBlock = some b → b ≠ g ∧ b ≠ d ∧ ∀ c, c < 4 → (vp c).ownBlock ≠ some b) ∧ (∀ c, c < 4 → ∀ b, (vp c).ownBlock = some b → b ≠ g ∧ b ≠ d) := by
  obtain ⟨rg, hg, _⟩ := h.blk
  obtain ⟨fd, ⟨rd, hd, _⟩, _⟩ := h.sto
  have no : ∀ {x y : Nat} {cx cy : Array Value} {tx ty : TypeId}, w.heap[x]? = some (.cells cx tx (0, 0)) → w.heap[y]? = some (.cells cy ty (0, 0)) → tx ≠ ty → x ≠ y := by
    intro x y cx cy tx ty hx hy ht e
    rw [e, hy] at hx
    simp only [Option.some.injEq, Obj.cells.injEq] at hx
    exact ht hx.2.1.symm
  refine ⟨no hg hd (by decide), fun b hb => ?_, fun b hb => ?_, fun c hc b hb => ?_⟩
  · obtain ⟨cb, hbb⟩ := h.row.kind hb
    refine ⟨no hbb hg (by decide), no hbb hd (by decide), fun e => ?_, fun c hc e => ?_⟩
    · obtain ⟨ce, he⟩ := h.reps.kind e
      exact no hbb he (by decide) rfl
    · obtain ⟨ce, he⟩ := (h.pl c hc).kind e
      exact no hbb he (by decide) rfl
  · obtain ⟨cb, hbb⟩ := h.reps.kind hb
    refine ⟨no hbb hg (by decide), no hbb hd (by decide), fun c hc e => ?_⟩
    obtain ⟨ce, he⟩ := (h.pl c hc).kind e
    exact no hbb he (by decide) rfl
  · obtain ⟨cb, hbb⟩ := (h.pl c hc).kind hb
    exact ⟨no hbb hg (by decide), no hbb hd (by decide)⟩
theorem linF_last (q : Int) (vq : Value) (vp : Nat → Value) (last : Nat → Int) (d : Nat) (vr : Value) (i : Nat) (hi : i < 32) (m : Int) : ∀ k, updF (linF q vq vp last d vr) (6 + i) (.int .i64 m) k = linF q vq vp (updF last i m) d vr k := by
  intro k
  by_cases e : k = 6 + i
  · subst e
    rw [updF_same]
    unfold linF
    rw [if_neg (by omega), if_neg (by omega), if_neg (by omega), if_pos (by omega), show 6 + i - 6 = i by omega, updF_same]
  · rw [updF_other _ _ _ _ e]
    unfold linF
    split; · rfl
    split; · rfl
    split; · rfl
    split
    · rw [updF_other _ _ _ _ (by omega)]
    · rfl
theorem linF_pl (q : Int) (vq : Value) (vp : Nat → Value) (last : Nat → Int) (d : Nat) (vr : Value) (c : Nat) (hc : c < 4) (v : Value) : ∀ k, updF (linF q vq vp last d vr) (2 + c) v k = linF q vq (updF vp c v) last d vr k := by
  intro k
  by_cases e : k = 2 + c
  · subst e
    rw [updF_same]
    unfold linF
    rw [if_neg (by omega), if_neg (by omega), if_pos (by omega), show 2 + c - 2 = c by omega, updF_same]
  · rw [updF_other _ _ _ _ e]
    unfold linF
    split; · rfl
    split; · rfl
    split
    · rw [updF_other _ _ _ _ (by omega)]
    · rfl
theorem linF_req (q : Int) (vq : Value) (vp : Nat → Value) (last : Nat → Int) (d : Nat) (vr : Value) (v : Value) : ∀ k, updF (linF q vq vp last d vr) 1 v k = linF q v vp last d vr k := by
  intro k
  by_cases e : k = 1
  · subst e; rfl
  · rw [updF_other _ _ _ _ e]
    unfold linF
    rw [if_neg e, if_neg e]
theorem linF_rep (q : Int) (vq : Value) (vp : Nat → Value) (last : Nat → Int) (d : Nat) (vr : Value) (v : Value) : ∀ k, k < 40 → updF (linF q vq vp last d vr) 39 v k = linF q vq vp last d v k := by
  intro k hk
  by_cases e : k = 39
  · subst e; rfl
  · rw [updF_other _ _ _ _ e]
    unfold linF
    split; · rfl
    split; · rfl
    split; · rfl
    split; · rfl
    split; · rfl
    omega
theorem Blk.congr {w : World} {b : Nat} {t : TypeId} {n : Nat} {f f' : Nat → Value} (h : Blk w b t n f) (hf : ∀ k, k < n → f k = f' k) : Blk w b t n f' := by
  obtain ⟨row, h1, h2, h3⟩ := h
  exact ⟨row, h1, h2, fun k hk => by rw [h3 k hk, hf k hk]⟩
theorem Raw.setLast (h : Raw w n g d vq vr vp q last L pls K s) (i : Nat) (hi : i < 32) (m : Int) : Raw (w.setCell ⟨g, 6 + i, none⟩ (.int .i64 m)) n g d vq vr vp q (updF last i m) L pls K s := by
  have ho := Only.set g (6 + i) w (.int .i64 m)
  obtain ⟨k1, k2, k3, k4⟩ := h.kinds
  have hk : ∀ x, x < w.heap.size → x ≠ g → (w.setCell ⟨g, 6 + i, none⟩ (.int .i64 m)).heap[x]? = w.heap[x]? := fun x hx hn => ho.block x hx hn
  exact ⟨(h.blk.set (6 + i) _).congr fun k _ => linF_last q vq vp last d vr i hi m k, h.row.of fun b hb => hk b (h.row.own.lt b hb).2 (k2 b hb).1, h.reps.of fun b hb => hk b (h.reps.own.lt b hb).2 (k3 b hb).1, fun c hc => (h.pl c hc).of fun b hb => hk b ((h.pl c hc).own.lt b hb).2 (k4 c hc b hb).1, h.ap,
    h.sto.only (S := (· = g)) (fun e => k1 e.symm) (fun x hx _ => hx ▸ h.nobool) ho, h.lowg, h.lowd⟩
/-- Behind an append to the requests' row, and its store. -/
theorem Raw.setReq {w1 : World} {v2 : Value} {r : ReqV} (h : Raw w n g d vq vr vp q last L pls K s) (hown : ORow w1 n 34 6 v2 (L.length + 1) (reqCs L ++ reqC r)) (hg : w.grownBy w1 vq.ownBlock) (hv : ∀ b, v2.ownBlock = some b → vq.ownBlock = some b ∨ w.heap.size ≤ b) :
    Raw (w1.setCell ⟨g, 1, none⟩ v2) n g d v2 vr vp q last (L ++ [r]) pls K s ∧ w1.cell? ⟨g, 1, none⟩ = some vq ∧ w1.frozen? ⟨g, 1, none⟩ = false := by
  obtain ⟨k1, k2, k3, k4⟩ := h.kinds
  have hk1 : ∀ x, x < w.heap.size → vq.ownBlock ≠ some x → w1.heap[x]? = w.heap[x]? := fun x hx hn => hg.block x hx (fun e => hn e.symm)
  have hgn : vq.ownBlock ≠ some g := fun e => (k2 g e).1 rfl
  have hdn : vq.ownBlock ≠ some d := fun e => (k2 d e).2.1 rfl
  have hb1 : Blk w1 g 91 40 (linF q vq vp last d vr) := h.blk.of (hk1 g h.lt hgn)
  have hne : ∀ b, v2.ownBlock = some b → b ≠ g := fun b hb e => by
    subst e
    rcases hv b hb with h' | h'
    · exact hgn h'
    · have := h.lt; omega
  have ho := Only.set g 1 w1 v2
  have hk : ∀ x, x < w.heap.size → x ≠ g → vq.ownBlock ≠ some x → (w1.setCell ⟨g, 1, none⟩ v2).heap[x]? = w.heap[x]? := fun x hx hn hq => (ho.block x (Nat.lt_of_lt_of_le hx hg.size) hn).trans (hk1 x hx hq)
  have hog := grown_only hg
  refine ⟨⟨(hb1.set 1 v2).congr fun k _ => linF_req q vq vp last d vr v2 k, ?_, h.reps.of fun b hb => hk b (h.reps.own.lt b hb).2 (k3 b hb).1 (fun e => (k2 b e).2.2.1 hb), fun c hc => (h.pl c hc).of fun b hb => hk b ((h.pl c hc).own.lt b hb).2 (k4 c hc b hb).1 (fun e => (k2 b e).2.2.2 c hc hb), h.ap, ?_, h.lowg, h.lowd⟩, hb1.cell 1 (by decide), hb1.free 1⟩
  · rw [List.length_append, ← reqCs_app]
    exact hown.of fun b hb => ho.block b (hown.own.lt b hb).2 (hne b hb)
  · have s1 : Sto layP w1 d s := h.sto.only (S := fun x => vq.ownBlock = some x) hdn (fun x hx _ => (h.row.nb x hx).no) hog
    exact s1.only (S := (· = g)) (fun e => k1 e.symm) (fun x hx _ => by subst hx; intro o y hy; exact h.nobool o y (by rw [← hy]; exact (World.cell?_of_block (a := ⟨x, o, none⟩) (hk1 x h.lt hgn)).symm)) ho
/-- Behind an append to a row of places, and its store. -/
theorem Raw.setPl {w1 : World} {v2 : Value} {p : Int} {c : Nat} (hc : c < 4) (h : Raw w n g d vq vr vp q last L pls K s) (hown : ORow w1 n 3 1 v2 ((pls c).length + 1) (intCells (pls c) ++ [.int .i64 p])) (hg : w.grownBy w1 (vp c).ownBlock) (hv : ∀ b, v2.ownBlock = some b → (vp c).ownBlock = some b ∨ w.heap.size ≤ b) :
    Raw (w1.setCell ⟨g, 2 + c, none⟩ v2) n g d vq vr (updF vp c v2) q last L (updF pls c (pls c ++ [p])) K s ∧ w1.cell? ⟨g, 2 + c, none⟩ = some (vp c) ∧ w1.frozen? ⟨g, 2 + c, none⟩ = false := by
  obtain ⟨k1, k2, k3, k4⟩ := h.kinds
  have hk1 : ∀ x, x < w.heap.size → (vp c).ownBlock ≠ some x → w1.heap[x]? = w.heap[x]? := fun x hx hn => hg.block x hx (fun e => hn e.symm)
  have hgn : (vp c).ownBlock ≠ some g := fun e => (k4 c hc g e).1 rfl
  have hdn : (vp c).ownBlock ≠ some d := fun e => (k4 c hc d e).2 rfl
  have hb1 : Blk w1 g 91 40 (linF q vq vp last d vr) := h.blk.of (hk1 g h.lt hgn)
  have hne : ∀ b, v2.ownBlock = some b → b ≠ g := fun b hb e => by
    subst e
    rcases hv b hb with h' | h'
    · exact hgn h'
    · have := h.lt; omega
  have ho := Only.set g (2 + c) w1 v2
  have hk : ∀ x, x < w.heap.size → x ≠ g → (vp c).ownBlock ≠ some x → (w1.setCell ⟨g, 2 + c, none⟩ v2).heap[x]? = w.heap[x]? := fun x hx hn hq => (ho.block x (Nat.lt_of_lt_of_le hx hg.size) hn).trans (hk1 x hx hq)
  have hog := grown_only hg
  have hcell := (h.cp c hc).1
  refine ⟨⟨(hb1.set (2 + c) v2).congr fun k _ => linF_pl q vq vp last d vr c hc v2 k, h.row.of fun b hb => hk b (h.row.own.lt b hb).2 (k2 b hb).1 ((k2 b hb).2.2.2 c hc), h.reps.of fun b hb => hk b (h.reps.own.lt b hb).2 (k3 b hb).1 ((k3 b hb).2.2 c hc), fun c' hc' => ?_, ?_, ?_, h.lowg, h.lowd⟩, ?_, hb1.free _⟩
  · by_cases e : c' = c
    · subst e
      rw [updF_same, updF_same, List.length_append]
      have hx : intCells (pls c' ++ [p]) = intCells (pls c') ++ [.int .i64 p] := by simp [intCells]
      rw [hx]
      exact hown.of fun b hb => ho.block b (hown.own.lt b hb).2 (hne b hb)
    · rw [updF_other _ _ _ _ e, updF_other _ _ _ _ e]
      exact (h.pl c' hc').of fun b hb => hk b ((h.pl c' hc').own.lt b hb).2 (k4 c' hc' b hb).1 (fun e2 => h.ap c' c hc' hc e b hb e2)
  · intro a b ha hb hab x hx hy
    by_cases ea : a = c
    · subst ea
      rw [updF_same] at hx
      rw [updF_other _ _ _ _ (fun e => hab e.symm)] at hy
      rcases hv x hx with h' | h'
      · exact h.ap a b ha hb hab x h' hy
      · have := ((h.pl b hb).own.lt x hy).2; omega
    · rw [updF_other _ _ _ _ ea] at hx
      by_cases eb : b = c
      · subst eb
        rw [updF_same] at hy
        rcases hv x hy with h' | h'
        · exact h.ap a b ha hb hab x hx h'
        · have := ((h.pl a ha).own.lt x hx).2; omega
      · rw [updF_other _ _ _ _ eb] at hy
        exact h.ap a b ha hb hab x hx hy
  · have s1 : Sto layP w1 d s := h.sto.only (S := fun x => (vp c).ownBlock = some x) hdn (fun x hx _ => ((h.pl c hc).nb x hx).no) hog
    exact s1.only (S := (· = g)) (fun e => k1 e.symm) (fun x hx _ => by subst hx; intro o y hy; exact h.nobool o y (by rw [← hy]; exact (World.cell?_of_block (a := ⟨x, o, none⟩) (hk1 x h.lt hgn)).symm)) ho
  · rw [World.cell?_of_block (a := ⟨g, 2 + c, none⟩) (hk1 g h.lt hgn)]
    exact hcell
/-- Behind an append to the replies' row, and its store. -/
theorem Raw.setRep {w1 : World} {v2 : Value} {r : RcV} (h : Raw w n g d vq vr vp q last L pls K s) (hown : ORow w1 n 48 4 v2 (K.length + 1) (rcCs K ++ rcC r)) (hg : w.grownBy w1 vr.ownBlock) (hv : ∀ b, v2.ownBlock = some b → vr.ownBlock = some b ∨ w.heap.size ≤ b) :
    Raw (w1.setCell ⟨g, 39, none⟩ v2) n g d vq v2 vp q last L pls (K ++ [r]) s ∧ w1.cell? ⟨g, 39, none⟩ = some vr ∧ w1.frozen? ⟨g, 39, none⟩ = false := by
  obtain ⟨k1, k2, k3, k4⟩ := h.kinds
  have hk1 : ∀ x, x < w.heap.size → vr.ownBlock ≠ some x → w1.heap[x]? = w.heap[x]? := fun x hx hn => hg.block x hx (fun e => hn e.symm)
  have hgn : vr.ownBlock ≠ some g := fun e => (k3 g e).1 rfl
  have hdn : vr.ownBlock ≠ some d := fun e => (k3 d e).2.1 rfl
  have hb1 : Blk w1 g 91 40 (linF q vq vp last d vr) := h.blk.of (hk1 g h.lt hgn)
  have hne : ∀ b, v2.ownBlock = some b → b ≠ g := fun b hb e => by
    subst e
    rcases hv b hb with h' | h'
    · exact hgn h'
    · have := h.lt; omega
  have ho := Only.set g 39 w1 v2
  have hk : ∀ x, x < w.heap.size → x ≠ g → vr.ownBlock ≠ some x → (w1.setCell ⟨g, 39, none⟩ v2).heap[x]? = w.heap[x]? := fun x hx hn hq => (ho.block x (Nat.lt_of_lt_of_le hx hg.size) hn).trans (hk1 x hx hq)
  have hog := grown_only hg
  refine ⟨⟨(hb1.set 39 v2).congr fun k hk' => linF_rep q vq vp last d vr v2 k hk', h.row.of fun b hb => hk b (h.row.own.lt b hb).2 (k2 b hb).1 (fun e => (k2 b hb).2.2.1 e), ?_, fun c hc => (h.pl c hc).of fun b hb => hk b ((h.pl c hc).own.lt b hb).2 (k4 c hc b hb).1 (fun e => (k3 b e).2.2 c hc hb), h.ap, ?_, h.lowg, h.lowd⟩, hb1.cell 39 (by decide), hb1.free 39⟩
  · rw [List.length_append, ← rcCs_app]
    exact hown.of fun b hb => ho.block b (hown.own.lt b hb).2 (hne b hb)
  · have s1 : Sto layP w1 d s := h.sto.only (S := fun x => vr.ownBlock = some x) hdn (fun x hx _ => (h.reps.nb x hx).no) hog
    exact s1.only (S := (· = g)) (fun e => k1 e.symm) (fun x hx _ => by subst hx; intro o y hy; exact h.nobool o y (by rw [← hy]; exact (World.cell?_of_block (a := ⟨x, o, none⟩) (hk1 x h.lt hgn)).symm)) ho
/-- The log's store is turned. -/
theorem Raw.setSto {s' : StoV} (h : Raw w n g d vq vr vp q last L pls K s) (hb : Besides d w w') (hs : Sto layP w' d s') : Raw w' n g d vq vr vp q last L pls K s' := by
  obtain ⟨k1, k2, k3, k4⟩ := h.kinds
  have hk : ∀ x, x < w.heap.size → x ≠ d → w'.heap[x]? = w.heap[x]? := fun x hx hn => hb.block x hx hn
  exact ⟨h.blk.of (hk g h.lt k1), h.row.of fun b hb => hk b (h.row.own.lt b hb).2 (k2 b hb).2.1, h.reps.of fun b hb => hk b (h.reps.own.lt b hb).2 (k3 b hb).2.1, fun c hc => (h.pl c hc).of fun b hb => hk b ((h.pl c hc).own.lt b hb).2 (k4 c hc b hb).2, h.ap, hs, h.lowg, h.lowd⟩
end

/-- A log in memory. -/
structure Lin (w : World) (n g d : Nat) (vq vr : Value) (vp : Nat → Value) (q : Int) (L : List ReqV) (K : List RcV) : Prop where
  raw : Raw w n g d vq vr vp q (lastL L) L (placesL L) K (stoOf q (L.take K.length))
  kle : K.length ≤ L.length
  rep : ∀ k, k < K.length → RepOf q L k (K.getD k rc0)
  ok : okL L
  quo : 1 ≤ q ∧ q ≤ 100
section
variable {w w' : World} {n g d : Nat} {vq vr : Value} {vp : Nat → Value} {q : Int} {L : List ReqV} {K : List RcV}
theorem Lin.row (h : Lin w n g d vq vr vp q L K) : ORow w n 34 6 vq L.length (reqCs L) := h.raw.row
theorem Lin.reps (h : Lin w n g d vq vr vp q L K) : ORow w n 48 4 vr K.length (rcCs K) := h.raw.reps
theorem Lin.pl (h : Lin w n g d vq vr vp q L K) : ∀ c, c < 4 → ORow w n 3 1 (vp c) (placesL L c).length (intCells (placesL L c)) := h.raw.pl
theorem Lin.sto (h : Lin w n g d vq vr vp q L K) : Sto layP w d (stoOf q (L.take K.length)) := h.raw.sto
theorem Lin.lt (h : Lin w n g d vq vr vp q L K) : g < w.heap.size := h.raw.lt
theorem Lin.all (h : Lin w n g d vq vr vp q L K) {x : Nat} (hx : LB g d vq vr vp x) : NoBool w x ∧ x < w.heap.size ∧ n ≤ x := h.raw.all hx
theorem Lin.keep {S : Nat → Prop} (h : Lin w n g d vq vr vp q L K) (ho : Only S w w') (hs : ∀ x, LB g d vq vr vp x → ¬ S x) (hn : ∀ x, S x → x < w.heap.size → NoBool w x) : Lin w' n g d vq vr vp q L K := ⟨h.raw.keep ho hs hn, h.kle, h.rep, h.ok, h.quo⟩
theorem Lin.on (h : Lin w n g d vq vr vp q L K) (hb : Below w.heap.size w w') : Lin w' n g d vq vr vp q L K := ⟨h.raw.on hb, h.kle, h.rep, h.ok, h.quo⟩
theorem Lin.drewN (h : Lin w n g d vq vr vp q L K) (m : Nat) : Lin (w.drewN m) n g d vq vr vp q L K := h.on ⟨rfl, rfl, rfl, Nat.le_refl _, fun _ _ => rfl⟩
theorem Lin.len (h : Lin w n g d vq vr vp q L K) : ∃ a c, vq = .slice a L.length c := own_shape h.row.own
theorem Lin.rlen (h : Lin w n g d vq vr vp q L K) : ∃ a c, vr = .slice a K.length c := own_shape h.reps.own
theorem Lin.plen (h : Lin w n g d vq vr vp q L K) {c : Nat} (hc : c < 4) : ∃ a e, vp c = .slice a (placesL L c).length e := own_shape (h.pl c hc).own
theorem Lin.c0 (h : Lin w n g d vq vr vp q L K) : w.cell? ⟨g, 0, none⟩ = some (.int .i64 q) := h.raw.blk.cell 0 (by decide)
theorem Lin.c1 (h : Lin w n g d vq vr vp q L K) : w.cell? ⟨g, 1, none⟩ = some vq := h.raw.c1.1
theorem Lin.cp (h : Lin w n g d vq vr vp q L K) (c : Nat) (hc : c < 4) : w.cell? ⟨g, 2 + c, none⟩ = some (vp c) := (h.raw.cp c hc).1
theorem Lin.cl (h : Lin w n g d vq vr vp q L K) (i : Nat) (hi : i < 32) : w.cell? ⟨g, 6 + i, none⟩ = some (.int .i64 (lastL L i)) := (h.raw.cl i hi).1
theorem Lin.cd (h : Lin w n g d vq vr vp q L K) : w.cell? ⟨g, 38, none⟩ = some (.pointer (some ⟨d, 0, none⟩)) := h.raw.cd
theorem Lin.cr (h : Lin w n g d vq vr vp q L K) : w.cell? ⟨g, 39, none⟩ = some vr := h.raw.cr.1
/-- A request's cells in the row. -/
theorem row_req {a : Value} {N : List ReqV} (h : ORow w n 34 6 a N.length (reqCs N)) (k : Nat) (hk : k < N.length) : ∃ b c, a = .slice (some ⟨b, 0, none⟩) N.length c ∧ N.length ≤ c ∧ ReqCells w b (k * 6) (atL N k) := by
  have hg := reqCs_get N k hk
  obtain ⟨b, c, e, hc, c0⟩ := h.cell (k * 6) _ (by have := hg 0 (by omega); rw [Nat.add_zero] at this; exact this)
  have hj : ∀ j x, j < 6 → (reqC (atL N k))[j]? = some x → w.cell? ⟨b, k * 6 + j, none⟩ = some x := by
    intro j x hj hx
    obtain ⟨b', c', e', _, cj⟩ := h.cell (k * 6 + j) x ((hg j hj).trans hx)
    rw [e] at e'
    simp only [Value.slice.injEq, Option.some.injEq, Addr.mk.injEq] at e'
    obtain ⟨⟨rfl, _, _⟩, _, rfl⟩ := e'
    exact cj
  exact ⟨b, c, e, hc, hj 0 _ (by omega) rfl, hj 1 _ (by omega) rfl, hj 2 _ (by omega) rfl, hj 3 _ (by omega) rfl, hj 4 _ (by omega) rfl, hj 5 _ (by omega) rfl⟩
theorem Lin.req (h : Lin w n g d vq vr vp q L K) (k : Nat) (hk : k < L.length) : ∃ b c, vq = .slice (some ⟨b, 0, none⟩) L.length c ∧ L.length ≤ c ∧ ReqCells w b (k * 6) (atL L k) := row_req h.row k hk
end

/-! ### New -/
def lin0 (q : Int) (d : Nat) : List Value := (List.range 40).map (linF q (.slice none 0 0) (fun _ => .slice none 0 0) (lastL []) d (.slice none 0 0))
theorem lin_fresh (w : World) (n d : Nat) (q : Int) (row : Array Value) (hrow : row.toList = lin0 q d) (hs : Sto layP w d (newV q)) (hd : n ≤ d) (hn : n ≤ w.heap.size) (hq : 1 ≤ q ∧ q ≤ 100) :
    Lin (w.alloc (.cells row 91)) n w.heap.size d (.slice none 0 0) (.slice none 0 0) (fun _ => .slice none 0 0) q [] [] := by
  refine ⟨⟨⟨row, heap_alloc_new w _, by rw [← Array.length_toList, hrow]; simp [lin0], fun k hk => ?_⟩, ORow.none _ _ _ _, ORow.none _ _ _ _, fun c _ => ORow.none _ _ _ _, (fun _ _ _ _ _ b hb => by cases hb), hs.alloc _, hn, hd⟩, Nat.le_refl _, (fun k hk => absurd hk (Nat.not_lt_zero _)), okL_nil, hq⟩
  rw [← Array.getElem?_toList, hrow]
  simp [lin0, hk]
set_option maxRecDepth 100000 in
set_option maxHeartbeats 1000000 in
theorem lnew_yes (q : Int) (h1 : 1 ≤ q) (h2 : q ≤ 100) (w : World) : Calls Try.prog 11 #[.int .i64 q] w fun e w' => e = .returned (.tuple #[.pointer (some ⟨w.heap.size + 1, 0, none⟩), .int .i64 0]) ∧
    Lin w' w.heap.size (w.heap.size + 1) w.heap.size (.slice none 0 0) (.slice none 0 0) (fun _ => .slice none 0 0) q [] [] ∧ Below w.heap.size w w' := by
  have HS := Lib.hid (snew_r q h1 h2 w)
  go_enter Try.func11, Try.ntmps11
  go_wp2_with fail
  refine HS.out.mono ?_
  rintro e w1 ⟨rfl, S1, z1, B1⟩
  have H1 := Lib.hid S1
  have HZ := Lib.hid z1
  have HB := Lib.hid B1
  clear S1 z1 B1 HS
  go_wp2
  go_returns
  rw [HZ.out]
  refine ⟨rfl, ?_, HB.out.alloc HB.out.size _⟩
  have h := lin_fresh w1 w.heap.size w.heap.size q _ (by rfl) H1.out (Nat.le_refl _) HB.out.size ⟨h1, h2⟩
  rw [HZ.out] at h
  exact h
set_option maxHeartbeats 400000 in
theorem lnew_no (q : Int) (h : q < 1 ∨ 100 < q) (w : World) : Calls Try.prog 11 #[.int .i64 q] w fun e w' => e = .returned (.tuple #[.pointer none, .int .i64 1]) ∧ w = w' := by
  have HS := Lib.hid (snew_bad q h w)
  clear h
  go_enter Try.func11, Try.ntmps11
  go_wp2_with fail
  refine HS.out.mono ?_
  rintro e w1 ⟨rfl, rfl⟩
  go_wp2
  go_returns
  exact ⟨rfl, rfl⟩
end Go.Proofs.Ytenjjgghoacboaa
