/-
  A ROW OF MESSAGES IN MEMORY, wherever in its block it begins; what append, copy and clear make of it. No condition but that lengths stay below a million.
-/
import Derived.Test.YtkflkkdfklbfpaaOnly
import Derived.Test.YtkflkkdfklbfpaaPackR
import Derived.Laws.CopyOwn
import Derived.Deep.QuietTactic
import Derived.BigQuiet
import Derived.Deep.RegionHeld3
import Derived.Deep.RegionLaw
namespace Go.Proofs.Ytkflkkdfklbfpaa
open Go.RowKit

/-- A message as plain data. -/
structure MsgV where
  fr : Int
  to : Int
  tx : ByteArray
deriving DecidableEq
instance : Inhabited MsgV := ⟨⟨0, 0, ⟨#[]⟩⟩⟩
def msgC (m : MsgV) : List Value := [.int .i64 m.fr, .int .i64 m.to, .string m.tx]
def rowC (L : List MsgV) : List Value := L.flatMap msgC
def mAt (L : List MsgV) (j : Nat) : MsgV := L.getD j default

theorem rowC_length (L : List MsgV) : (rowC L).length = L.length * 3 := by
  unfold rowC
  induction L with
  | nil => rfl
  | cons m L ih => rw [List.flatMap_cons, List.length_append, ih]; simp [msgC]; omega
theorem rowC_append (A C : List MsgV) : rowC (A ++ C) = rowC A ++ rowC C := by simp [rowC]
theorem rowC_cons (m : MsgV) (L : List MsgV) : rowC (m :: L) = msgC m ++ rowC L := rfl
theorem rowC_one (m : MsgV) : rowC [m] = msgC m := by simp [rowC]
theorem rowC_get (L : List MsgV) : ∀ j, j < L.length → (rowC L)[j * 3]? = some (.int .i64 (mAt L j).fr) ∧ (rowC L)[j * 3 + 1]? = some (.int .i64 (mAt L j).to) ∧ (rowC L)[j * 3 + 2]? = some (.string (mAt L j).tx) := by
  induction L with
  | nil => intro j hj; simp at hj
  | cons v L ih =>
    intro j hj
    cases j with
    | zero => exact ⟨rfl, rfl, rfl⟩
    | succ j =>
      have := ih j (by simpa using hj)
      rw [rowC_cons, show (j + 1) * 3 = j * 3 + 3 by omega, List.getElem?_append_right (by simp [msgC]), List.getElem?_append_right (by show 3 ≤ _; omega), List.getElem?_append_right (by show 3 ≤ _; omega)]
      exact this
theorem mem_rowC {L : List MsgV} {u : Value} (h : u ∈ rowC L) : u.oneCell' = true := by
  obtain ⟨v, _, hu⟩ := List.mem_flatMap.1 h
  simp only [msgC, List.mem_cons, List.not_mem_nil, or_false] at hu
  rcases hu with rfl | rfl | rfl <;> rfl

theorem info_msg : (Try.prog.info? 58).map (fun i => (i.zero, i.size, i.bytes)) = some (some (.agg #[.int .i64 0, .int .i64 0, .string ⟨#[]⟩]), 3, 32) := by kernel_rfl
theorem size_msg : (Try.prog.info? 58).map (·.size) = some 3 := by kernel_rfl

/-- The slice value v holds the messages L: in a block from n on, behind the cells pre, ahead of the cells post. -/
def Rw (w : World) (n : Nat) (v : Value) (L : List MsgV) : Prop :=
  (v = .slice none 0 0 ∧ L = []) ∨ ∃ b o sp pre post, v = .slice (some ⟨b, o, none⟩) L.length (L.length + sp) ∧ n ≤ b ∧ w.heap[b]? = some (.cells (pre ++ rowC L ++ post).toArray 58 (0, 0)) ∧ pre.length = o ∧ post.length = sp * 3 ∧ L.length + sp ≤ maxLen
/-- The row's block. -/
def rblk (v : Value) (x : Nat) : Prop := ∃ o n c, v = .slice (some ⟨x, o, none⟩) n c

section
variable {w w' : World} {n : Nat} {v : Value} {L : List MsgV}
theorem Rw.kind (H : Rw w n v L) {x : Nat} (hx : rblk v x) : n ≤ x ∧ ∃ cs, w.heap[x]? = some (.cells cs 58 (0, 0)) := by
  obtain ⟨o, m, c, rfl⟩ := hx
  rcases H with ⟨h, _⟩ | ⟨b, o', sp, pre, post, h, hb, hh, _⟩
  · simp at h
  · simp only [Value.slice.injEq, Option.some.injEq, Addr.mk.injEq] at h
    obtain ⟨⟨rfl, rfl, _⟩, rfl, rfl⟩ := h
    exact ⟨hb, _, hh⟩
theorem Rw.lt (H : Rw w n v L) {x : Nat} (hx : rblk v x) : x < w.heap.size := by
  obtain ⟨_, cs, h⟩ := H.kind hx
  exact lt_of_block h
theorem Rw.keep {S : Nat → Prop} (H : Rw w n v L) (ho : Only S w w') (hs : ∀ x, rblk v x → ¬ S x) : Rw w' n v L := by
  rcases H with h | ⟨b, o, sp, pre, post, rfl, hb, hh, h1, h2, h3⟩
  · exact .inl h
  · exact .inr ⟨b, o, sp, pre, post, rfl, hb, (ho.block b (lt_of_block hh) (hs b ⟨_, _, _, rfl⟩)).trans hh, h1, h2, h3⟩
theorem Rw.on (H : Rw w n v L) (hb : Below w.heap.size w w') : Rw w' n v L := H.keep (S := fun _ => False) (.of hb) fun _ _ h => h
theorem Rw.low {n' : Nat} (H : Rw w n v L) (h : n' ≤ n) : Rw w n' v L := by
  rcases H with h0 | ⟨b, o, sp, pre, post, rfl, hb, h1⟩
  · exact .inl h0
  · exact .inr ⟨b, o, sp, pre, post, rfl, by omega, h1⟩
theorem Rw.shape (H : Rw w n v L) : ∃ a c, v = .slice a L.length c ∧ L.length ≤ c ∧ c ≤ maxLen := by
  rcases H with ⟨rfl, rfl⟩ | ⟨b, o, sp, pre, post, rfl, hb, hh, h1, h2, h3⟩
  · exact ⟨_, _, rfl, Nat.le_refl _, Nat.zero_le _⟩
  · exact ⟨_, _, rfl, by omega, h3⟩
end

theorem get_mid {α} (pre mid post : List α) (j : Nat) (x : α) (h : mid[j]? = some x) : (pre ++ mid ++ post)[pre.length + j]? = some x := by
  have hj : j < mid.length := (List.getElem?_eq_some_iff.1 h).1
  rw [List.append_assoc, List.getElem?_append_right (by omega), Nat.add_sub_cancel_left, List.getElem?_append_left hj]
  exact h
theorem cell_mid {w : World} {b : Nat} {pre mid post : List Value} {e : TypeId} {fz : Nat × Nat} (hh : w.heap[b]? = some (.cells (pre ++ mid ++ post).toArray e fz)) (j : Nat) (x : Value) (h : mid[j]? = some x) : w.cell? ⟨b, pre.length + j, none⟩ = some x := by
  rw [cell_of_row _ _ _ _ _ _ hh, List.getElem?_toArray]
  exact get_mid pre mid post j x h
/-- The cells of the j-th message. -/
theorem row_cells {w : World} {b : Nat} {pre post : List Value} {L : List MsgV} (hh : w.heap[b]? = some (.cells (pre ++ rowC L ++ post).toArray 58 (0, 0))) (j : Nat) (hj : j < L.length) :
    w.cell? ⟨b, pre.length + j * 3, none⟩ = some (.int .i64 (mAt L j).fr) ∧ w.cell? ⟨b, pre.length + j * 3 + 1, none⟩ = some (.int .i64 (mAt L j).to) ∧ w.cell? ⟨b, pre.length + j * 3 + 2, none⟩ = some (.string (mAt L j).tx) := by
  have h := rowC_get L j hj
  exact ⟨cell_mid hh _ _ h.1, by rw [Nat.add_assoc]; exact cell_mid hh _ _ h.2.1, by rw [Nat.add_assoc]; exact cell_mid hh _ _ h.2.2⟩

theorem put_mid {α} (pre a b post : List α) (h : a.length = b.length) : (pre ++ a ++ post).take pre.length ++ b ++ (pre ++ a ++ post).drop (pre.length + b.length) = pre ++ b ++ post := by
  rw [List.append_assoc pre a post, List.take_left, List.drop_append, List.drop_eq_nil_of_le (by omega), List.nil_append, show pre.length + b.length - pre.length = a.length by omega, List.drop_left]

/-- append of one message onto a row, with room or without. -/
theorem run_append_rw {w : World} {n : Nat} {v : Value} {L : List MsgV} (H : Rw w n v L) (hn : n ≤ w.heap.size) (ty : TypeId) (x : Value) (m : MsgV) (hs : Src Try.prog 3 51 x 1 (msgC m) w) (hlim : L.length ≤ 1000000) :
    ∃ v' w', (Builtin.append_ #[51, 51] ty #[v, x]).run Try.prog w = .ok v' w' ∧ Rw w' n v' (L ++ [m]) ∧ Only (rblk v) w w' := by
  obtain ⟨i, hi, hz, h3, hby⟩ := info_parts info_msg
  have hu := Try.underlying51
  have grown : ∀ (old : Nat), (w.drew.alloc (.cells ((rowC L ++ msgC m).toArray ++ Builtin.zeroCells (Value.agg #[.int .i64 0, .int .i64 0, .string ⟨#[]⟩]).cells (grownCap w (L.length + 1) old 58 - (L.length + 1))) 58)).heap[w.heap.size]? = some (.cells ([] ++ rowC (L ++ [m]) ++ (Builtin.zeroCells (Value.agg #[.int .i64 0, .int .i64 0, .string ⟨#[]⟩]).cells (grownCap w (L.length + 1) old 58 - (L.length + 1))).toList).toArray 58 (0, 0)) := by
    intro old
    refine (heap_alloc_new w.drew _).trans ?_
    rw [rowC_append, rowC_one, List.nil_append]
    congr 2
    apply Array.ext'
    simp
  have rwn : ∀ (old : Nat), old < L.length + 1 → Rw (w.drew.alloc (.cells ((rowC L ++ msgC m).toArray ++ Builtin.zeroCells (Value.agg #[.int .i64 0, .int .i64 0, .string ⟨#[]⟩]).cells (grownCap w (L.length + 1) old 58 - (L.length + 1))) 58)) n (.slice (some ⟨w.heap.size, 0, none⟩) (L.length + 1) (grownCap w (L.length + 1) old 58)) (L ++ [m]) := by
    intro old ho
    have hge := grownCap_ge w (L.length + 1) old 58
    have hcm : grownCap w (L.length + 1) old 58 ≤ maxLen := grownCap_le_maxLen w (L.length + 1) old 58 (by unfold maxLen; omega)
    refine .inr ⟨w.heap.size, 0, grownCap w (L.length + 1) old 58 - (L.length + 1), [], _, ?_, hn, grown old, rfl, ?_, ?_⟩
    · rw [List.length_append, List.length_singleton, Nat.add_sub_cancel' hge]
    · rw [Array.length_toList, size_zeroCells]; rfl
    · rw [List.length_append, List.length_singleton]; omega
  have onl : ∀ (o : Obj), Only (rblk v) w (w.drew.alloc o) := fun o => ⟨rfl, rfl, rfl, by simp, fun k hk _ => Below.heap_alloc w.drew _ k hk⟩
  rcases H with ⟨rfl, rfl⟩ | ⟨b, o, sp, pre, post, rfl, hb, hh, h1, h2, hm⟩
  · have hr := run_append_grow_src (P := Try.prog) w 51 51 ty 58 i _ hu hi hz none 0 0 [] (run_firstCells_none w.drew i.size 0 0 0) x 1 (msgC m) (by rw [h3]; exact hs) (by omega) (by omega) (growslice_fits (by omega) (by omega))
    exact ⟨_, _, hr, rwn 0 (by simp), onl _⟩
  · by_cases hroom : sp = 0
    · subst hroom
      have hp : post = [] := List.eq_nil_of_length_eq_zero (by omega)
      subst hp
      have holds : ∀ j u, (rowC L)[j]? = some u → w.drew.cell? ((⟨b, o, none⟩ : Addr).add j) = some u := fun j u hj => by
        rw [Addr.add_lit, ← h1]
        exact cell_mid (w := w) hh j u hj
      have hr := run_append_grow_src (P := Try.prog) w 51 51 ty 58 i _ hu hi hz (some ⟨b, o, none⟩) L.length (L.length + 0) (rowC L) (run_firstCells_some w.drew i.size L.length ⟨b, o, none⟩ L.length (L.length + 0) (rowC L) (by rw [h3]; exact rowC_length L) holds) x 1 (msgC m) (by rw [h3]; exact hs) (by omega) (by omega) (growslice_fits (by omega) (by rw [hby]; omega))
      exact ⟨_, _, hr, rwn _ (by omega), onl _⟩
    · have hpl : (pre ++ rowC L).length = o + L.length * 3 := by rw [List.length_append, rowC_length, h1]
      obtain ⟨p1, p2, hpp, hp1⟩ : ∃ p1 p2, post = p1 ++ p2 ∧ p1.length = 3 := ⟨post.take 3, post.drop 3, (List.take_append_drop 3 post).symm, by rw [List.length_take]; omega⟩
      have hh' : w.heap[b]? = some (.cells ((pre ++ rowC L) ++ p1 ++ p2).toArray 58 (0, 0)) := by rw [hh, hpp]; simp [List.append_assoc]
      have hst := run_storeCells_at Try.prog b (o + L.length * 3) 58 (msgC m) 0 _ w hh' (by rw [List.size_toArray, List.length_append, List.length_append, hpl, hp1]; show _ + _ + 3 ≤ _; omega) (fun u hu => mem_rowC (L := [m]) (by rw [rowC_one]; exact hu))
      have e1 := put_mid (pre ++ rowC L) p1 (msgC m) p2 (by rw [hp1]; rfl)
      rw [hpl] at e1
      simp only [Nat.add_zero] at hst
      rw [e1] at hst
      have hr : (Builtin.append_ #[51, 51] ty #[.slice (some ⟨b, o, none⟩) L.length (L.length + sp), x]).run Try.prog w = .ok (.slice (some ⟨b, o, none⟩) (L.length + 1) (L.length + sp)) (w.setRow b (pre ++ rowC L ++ msgC m ++ p2).toArray) := by
        have hc := hs.cells
        simp [Builtin.append_, run_underlying hu, sizeOf, typeInfo, hi, h3, hs.len, show 1 ≤ sp by omega, hc, Addr.add_lit, hst]
      refine ⟨_, _, hr, .inr ⟨b, o, sp - 1, pre, p2, ?_, hb, ?_, h1, ?_, ?_⟩, ⟨rfl, rfl, rfl, by simp, fun k _ hk => setRow_other w b k _ (fun e => by subst e; exact hk ⟨_, _, _, rfl⟩)⟩⟩
      · rw [List.length_append, List.length_singleton, show L.length + 1 + (sp - 1) = L.length + sp by omega]
      · rw [setRow_heap w b _ _ 58 _ hh', rowC_append, rowC_one]; simp [List.append_assoc]
      · have := congrArg List.length hpp; rw [List.length_append] at this; omega
      · rw [List.length_append, List.length_singleton]; omega

/-- copy of messages onto a row, which may be the same one. -/
theorem run_copy3 {w : World} (ty : TypeId) (g o dLen dCap : Nat) (a : Addr) (sLen sCap : Nat) (cur : Array Value) (cs : List Value)
    (hg : w.heap[g]? = some (.cells cur 58 (0, 0))) (hn : cs.length = Nat.min sLen dLen * 3)
    (hsrc : ∀ j v, cs[j]? = some v → w.cell? (a.add j) = some v) (hfit : o + cs.length ≤ cur.size) (h1 : ∀ v ∈ cs, v.oneCell' = true) :
    (Builtin.copy_ #[51, 51] ty #[.slice (some ⟨g, o, none⟩) dLen dCap, .slice (some a) sLen sCap]).run Try.prog w =
      .ok (goInt (Nat.min sLen dLen)) (w.setRow g (cur.toList.take o ++ cs ++ cur.toList.drop (o + cs.length)).toArray) := by
  have hl := run_loadCells_list (P := Try.prog) w a cs hsrc
  have hst := run_storeCells_at Try.prog g o 58 cs 0 cur w hg (by simpa using hfit) h1
  obtain ⟨i, hi, hz, h3, hby⟩ := info_parts info_msg
  rw [hn] at hl
  simp [Builtin.copy_, run_underlying Try.underlying51, Builtin.lenOf, Builtin.firstCells, sizeOf, typeInfo, hi, h3, hl, hst]

/-- clear of messages. -/
theorem run_clear3 {w : World} (g o m : Nat) (pre mid post : List Value) (hm : 0 < m)
    (hg : w.heap[g]? = some (.cells (pre ++ mid ++ post).toArray 58 (0, 0))) (ho : pre.length = o) (hmid : mid.length = m * 3) :
    ∃ zs : List Value, zs.length = m * 3 ∧ ∀ ty c, (Builtin.clear_ #[51] ty #[.slice (some ⟨g, o, none⟩) m c]).run Try.prog w = .ok (.tuple #[]) (w.setRow g (pre ++ zs ++ post).toArray) := by
  have hu := Try.underlying51
  obtain ⟨zs, hzs⟩ : ∃ zs, zs = (Builtin.zeroCells (Value.agg #[.int .i64 0, .int .i64 0, .string ⟨#[]⟩]).cells m).toList := ⟨_, rfl⟩
  have hzl : zs.length = m * 3 := by rw [hzs, Array.length_toList, size_zeroCells]; rfl
  refine ⟨zs, hzl, fun ty c => ?_⟩
  have hst := run_storeCells_at Try.prog g o 58 zs 0 _ w hg (by rw [List.size_toArray, List.length_append, List.length_append, ho, hmid, hzl]; omega) (by
    intro u hu
    rw [hzs] at hu
    simp only [Builtin.zeroCells, Array.toList_map, List.mem_map] at hu
    obtain ⟨i, _, rfl⟩ := hu
    have : i % 3 < 3 := Nat.mod_lt _ (by omega)
    show (#[Value.int .i64 0, .int .i64 0, .string ⟨#[]⟩][i % 3]!).oneCell' = true
    rcases (show i % 3 = 0 ∨ i % 3 = 1 ∨ i % 3 = 2 by omega) with h | h | h <;> rw [h] <;> rfl)
  have e1 := put_mid pre mid zs post (by omega)
  simp only [Nat.add_zero] at hst
  rw [← ho] at hst ⊢
  rw [e1] at hst
  rw [hzs] at hst ⊢
  obtain ⟨k, rfl⟩ : ∃ k, m = k + 1 := ⟨m - 1, by omega⟩
  obtain ⟨i, hi, hz, h3, hby⟩ := info_parts info_msg
  simp [Builtin.clear_, run_underlying hu, zeroValue, typeInfo, hi, hz, hst]

/-- append within a row: what comes lies in the same row. -/
theorem run_append_in {w : World} (ty : TypeId) (g o n m cap c : Nat) (a : Addr) (pre mid post news : List Value)
    (hg : w.heap[g]? = some (.cells (pre ++ mid ++ post).toArray 58 (0, 0))) (ho : pre.length = o + n * 3) (hmid : mid.length = news.length) (hn : news.length = m * 3) (hroom : n + m ≤ cap)
    (hsrc : ∀ j v, news[j]? = some v → w.cell? (a.add j) = some v) (h1 : ∀ v ∈ news, v.oneCell' = true) :
    (Builtin.append_ #[51, 51] ty #[.slice (some ⟨g, o, none⟩) n cap, .slice (some a) m c]).run Try.prog w = .ok (.slice (some ⟨g, o, none⟩) (n + m) cap) (w.setRow g (pre ++ news ++ post).toArray) := by
  have hu := Try.underlying51
  obtain ⟨i, hi, hz, h3, hby⟩ := info_parts info_msg
  have hfc := run_firstCells_some (P := Try.prog) w 3 m a m c news hn hsrc
  have hst := run_storeCells_at Try.prog g (o + n * 3) 58 news 0 _ w hg (by rw [List.size_toArray, List.length_append, List.length_append, ho]; omega) h1
  have e1 := put_mid pre mid news post hmid
  simp only [Nat.add_zero] at hst
  rw [← ho] at hst
  rw [e1, ho] at hst
  simp [Builtin.append_, run_underlying hu, sizeOf, typeInfo, hi, h3, Builtin.lenOf, hroom, hfc, Addr.add_lit, hst]
end Go.Proofs.Ytkflkkdfklbfpaa
