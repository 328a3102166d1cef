/-
  A LOG AS PLAIN DATA (its requests, their places, what the committed ones make of a store); rows that are appended to and hold no bool; the log's block. No condition.
-/
import Derived.Test.YtenjjgghoacboaaStoreF
import Derived.Test.YtenjjgghoacboaaDiskV
import Derived.Test.YtenjjgghoacboaaChainE
import Derived.Deep.OwnRows
import Derived.Deep.RegionWith
namespace Go.Proofs.Ytenjjgghoacboaa
open Go.RowKit

/-! ### rows that hold no bool -/
/-- Block b holds cells, none of them a bool. -/
def NB (w : World) (b : Nat) : Prop := ∃ cs t, w.heap[b]? = some (.cells cs t (0, 0)) ∧ ∀ v ∈ cs.toList, ∀ x, v ≠ .bool x
theorem NB.no {w : World} {b : Nat} (h : NB w b) : NoBool w b := by
  obtain ⟨cs, t, hb, hn⟩ := h
  intro o x hx
  rw [show w.cell? ⟨b, o, none⟩ = cs[o]? by simp [World.cell?, hb]] at hx
  exact hn _ (by rw [← Array.getElem?_toList] at hx; exact List.mem_of_getElem? hx) x rfl
theorem NB.of {w w' : World} {b : Nat} (h : NB w b) (he : w'.heap[b]? = w.heap[b]?) : NB w' b := by
  obtain ⟨cs, t, hb, hn⟩ := h
  exact ⟨cs, t, he.trans hb, hn⟩
theorem NB.lt {w : World} {b : Nat} (h : NB w b) : b < w.heap.size := by obtain ⟨_, _, hb, _⟩ := h; exact lt_of_block hb

/-- A row of one's own that holds no bool. -/
structure ORow (w : World) (n : Nat) (e : TypeId) (size : Nat) (v : Value) (len : Nat) (xs : List Value) : Prop where
  own : w.ownsRow n e size v len xs
  nb : ∀ b, v.ownBlock = some b → NB w b
theorem ORow.none (w : World) (n : Nat) (e : TypeId) (size : Nat) : ORow w n e size (.slice Option.none 0 0) 0 [] := ⟨World.ownsRow_nil _ _ _ _, fun b hb => by cases hb⟩
theorem ORow.of {w w' : World} {n : Nat} {e : TypeId} {size : Nat} {v : Value} {len : Nat} {xs : List Value} (h : ORow w n e size v len xs) (hk : ∀ b, v.ownBlock = some b → w'.heap[b]? = w.heap[b]?) : ORow w' n e size v len xs :=
  ⟨ownsRow_on h.own hk, fun b hb => (h.nb b hb).of (hk b hb)⟩
theorem ORow.on {w w' : World} {n : Nat} {e : TypeId} {size : Nat} {v : Value} {len : Nat} {xs : List Value} (h : ORow w n e size v len xs) (hb : Below w.heap.size w w') : ORow w' n e size v len xs :=
  h.of fun b hx => hb.block b (h.own.lt b hx).2
theorem ORow.kind {w : World} {n : Nat} {e : TypeId} {size : Nat} {v : Value} {len : Nat} {xs : List Value} (h : ORow w n e size v len xs) {b : Nat} (hb : v.ownBlock = some b) : ∃ cs, w.heap[b]? = some (.cells cs e (0, 0)) := by
  rcases h.own.2 with ⟨rfl, _⟩ | ⟨g, cap, cur, rfl, _, hg, _⟩
  · cases hb
  · cases hb
    exact ⟨cur, hg⟩
theorem ORow.cell {w : World} {n : Nat} {e : TypeId} {size : Nat} {v : Value} {len : Nat} {xs : List Value} (h : ORow w n e size v len xs) (j : Nat) (x : Value) (hx : xs[j]? = some x) : ∃ b c, v = .slice (some ⟨b, 0, Option.none⟩) len c ∧ len ≤ c ∧ w.cell? ⟨b, j, Option.none⟩ = some x := by
  rcases h.own.2 with ⟨rfl, h0⟩ | ⟨g, cap, cur, rfl, _, hg, hle, _, _, ht⟩
  · have hl := h.own.1
    rw [h0, Nat.zero_mul] at hl
    rw [List.eq_nil_of_length_eq_zero hl] at hx
    simp at hx
  · refine ⟨g, cap, rfl, hle, ?_⟩
    rw [cell_of_row _ _ _ _ _ _ hg, ← Array.getElem?_toList]
    rw [← ht, List.getElem?_take] at hx
    split at hx
    · exact hx
    · cases hx

theorem mem_zeroCells {z : Array Value} {n : Nat} {v : Value} (h : v ∈ (Builtin.zeroCells z n).toList) : v ∈ z.toList := by
  unfold Builtin.zeroCells at h
  rw [Array.toList_map, Array.toList_range] at h
  obtain ⟨i, hi, rfl⟩ := List.mem_map.1 h
  have hi' := List.mem_range.1 hi
  have hz : 0 < z.size := by
    rcases Nat.eq_zero_or_pos z.size with h0 | h0
    · rw [h0, Nat.mul_zero] at hi'; omega
    · exact h0
  have hm : i % z.size < z.size := Nat.mod_lt _ hz
  rw [getElem!_pos z (i % z.size) hm]
  exact Array.getElem_mem_toList hm

/-- Append onto a row of one's own: no bool comes in; the row is the same one, or a new one. -/
theorem run_append_or {P : Program} {w : World} (base : Nat) (t tx ty e : TypeId) (i : TypeInfo) (z : Value) (size bytes : Nat) (ht : P.underlying t = some (.slice e)) (hi : P.info? e = some i) (hz : i.zero = some z)
    (hsize : i.size = size) (hby : i.bytes = bytes) (hzs : z.cells.size = size) (hzb : ∀ u ∈ z.cells.toList, ∀ x, u ≠ .bool x)
    (v : Value) (n : Nat) (xs : List Value) (H : ORow w base e size v n xs)
    (x : Value) (m : Nat) (news : List Value) (hs : Src P size tx x m news w) (hnb : ∀ u ∈ news, ∀ x, u ≠ .bool x)
    (h63 : n + m ≤ maxLen) (hbytes : (n + m) * bytes ≤ 140737488355328) (hbase : base ≤ w.heap.size) :
    ∃ v' w', (Builtin.append_ #[t, tx] ty #[v, x]).run P w = .ok v' w' ∧ ORow w' base e size v' (n + m) (xs ++ news) ∧ w.grownBy w' v.ownBlock ∧ (∀ b, v'.ownBlock = some b → v.ownBlock = some b ∨ w.heap.size ≤ b) := by
  have hown := H.own
  have hnbo := H.nb
  subst hsize
  subst hby
  have hl := hs.newsLen
  have hlen : (xs ++ news).length = (n + m) * i.size := by rw [List.length_append, hown.1, hl, Nat.add_mul]
  have hsm : n + m ≤ 9223372036854775807 := by simp only [maxLen] at h63; omega
  have hxb : ∀ u ∈ xs, ∀ x, u ≠ .bool x := by
    rcases hown.2 with ⟨rfl, rfl⟩ | ⟨g, cap, cur, rfl, hbg, hg, hnc, hcm, hcs, htake⟩
    · have hx : xs = [] := List.eq_nil_of_length_eq_zero (by simpa using hown.1)
      subst hx
      intro u hu; cases hu
    · obtain ⟨cs, t', hh, hn⟩ := hnbo g rfl
      rw [hg] at hh
      simp only [Option.some.injEq, Obj.cells.injEq] at hh
      obtain ⟨rfl, _, _⟩ := hh
      intro u hu
      rw [← htake] at hu
      exact hn u (List.mem_of_mem_take hu)
  have hab : ∀ u ∈ xs ++ news, ∀ x, u ≠ .bool x := fun u hu => (List.mem_append.1 hu).elim (hxb u) (hnb u)
  have grown : ∀ (old : Nat), old < n + m → ∀ (row : Option Nat),
      ORow (w.drew.alloc (.cells ((xs ++ news).toArray ++ Builtin.zeroCells z.cells (grownCap w (n + m) old e - (n + m))) e)) base e i.size
        (.slice (some ⟨w.heap.size, 0, none⟩) (n + m) (grownCap w (n + m) old e)) (n + m) (xs ++ news) ∧
      w.grownBy (w.drew.alloc (.cells ((xs ++ news).toArray ++ Builtin.zeroCells z.cells (grownCap w (n + m) old e - (n + m))) e)) row := by
    intro old ho row
    have hge := grownCap_ge w (n + m) old e
    have hcm : grownCap w (n + m) old e ≤ maxLen := grownCap_le_maxLen w (n + m) old e h63
    refine ⟨⟨⟨hlen, .inr ⟨w.heap.size, _, _, rfl, hbase, heap_alloc_new w.drew _, hge, hcm, ?_, ?_⟩⟩, fun b hb => ?_⟩, ⟨rfl, rfl, rfl, by simp, fun k hk _ => Below.heap_alloc w.drew _ k hk⟩⟩
    · simp only [Array.size_append, List.size_toArray, size_zeroCells, hzs, hlen, ← Nat.add_mul]
      congr 1
      omega
    · simp only [Array.toList_append]
      rw [← hlen]
      exact List.take_left
    · cases hb
      refine ⟨_, _, heap_alloc_new w.drew _, fun u hu => ?_⟩
      rw [Array.toList_append, List.mem_append] at hu
      rcases hu with hu | hu
      · exact hab u hu
      · exact hzb u (mem_zeroCells hu)
  rcases hown.2 with ⟨rfl, rfl⟩ | ⟨g, cap, cur, rfl, hbg, hg, hnc, hcm, hcs, htake⟩
  · have hx : xs = [] := List.eq_nil_of_length_eq_zero (by simpa using hown.1)
    subst hx
    by_cases hm : m = 0
    · subst hm
      have hn : news = [] := List.eq_nil_of_length_eq_zero (by simpa using hl)
      subst hn
      refine ⟨.slice none 0 0, w, ?_, ORow.none w base e i.size, ⟨rfl, rfl, rfl, Nat.le_refl _, fun _ _ _ => rfl⟩, fun _ hb => .inl hb⟩
      rcases hs.kind with ⟨e', hk⟩ | hk <;> simp [Builtin.append_, run_underlying ht, run_underlying hk, sizeOf, typeInfo, hi, hs.len, hs.cells]
    · have hr := run_append_grow_src (P := P) w t tx ty e i z ht hi hz none 0 0 [] (run_firstCells_none w.drew i.size 0 0 0) x m news hs (by omega) (by omega) (growslice_fits (by omega) (by simpa using hbytes))
      have hgr := grown 0 (by omega) (Value.ownBlock (.slice none 0 0))
      simp only [Nat.zero_add, List.nil_append] at hgr hr ⊢
      exact ⟨_, _, hr, hgr.1, hgr.2, fun b hb => .inr (by simp [Value.ownBlock] at hb; omega)⟩
  · by_cases hroom : n + m ≤ cap
    · have hfit : n * i.size + news.length ≤ cur.size := by rw [hl, hcs, ← Nat.add_mul]; exact Nat.mul_le_mul_right _ hroom
      have hst := run_storeCells_at P g (n * i.size) e news 0 cur w hg (by simpa using hfit) hs.one
      simp only [Nat.add_zero] at hst
      have hr : (Builtin.append_ #[t, tx] ty #[.slice (some ⟨g, 0, none⟩) n cap, x]).run P w =
          .ok (.slice (some ⟨g, 0, none⟩) (n + m) cap) (w.setRow g (cur.toList.take (n * i.size) ++ news ++ cur.toList.drop (n * i.size + news.length)).toArray) := by
        rcases hs.kind with ⟨e', hk⟩ | hk <;> simp [Builtin.append_, run_underlying ht, run_underlying hk, sizeOf, typeInfo, hi, hs.len, hroom, hs.cells, Addr.add_lit, hst]
      refine ⟨_, _, hr, ⟨⟨hlen, .inr ⟨g, cap, _, rfl, hbg, setRow_heap w g cur _ e _ hg, hroom, hcm, ?_, ?_⟩⟩, fun b hb => ?_⟩, ⟨rfl, rfl, rfl, by simp, fun k _ hk => setRow_other w g k _ (fun e => hk (by simp [Value.ownBlock, e]))⟩, fun _ hb => .inl hb⟩
      · simp only [List.size_toArray, List.length_append, List.length_take, List.length_drop, Array.length_toList]
        omega
      · rw [htake, ← hlen]
        exact List.take_left
      · cases hb
        obtain ⟨cs, t', hh, hn⟩ := hnbo g rfl
        rw [hg] at hh
        simp only [Option.some.injEq, Obj.cells.injEq] at hh
        obtain ⟨rfl, _, _⟩ := hh
        refine ⟨_, _, setRow_heap w g cur _ e _ hg, fun u hu => ?_⟩
        rcases List.mem_append.1 hu with hu | hu
        · rcases List.mem_append.1 hu with hu | hu
          · exact hn u (List.mem_of_mem_take hu)
          · exact hnb u hu
        · exact hn u (List.mem_of_mem_drop hu)
    · have holds : ∀ j u, xs[j]? = some u → w.drew.cell? ((⟨g, 0, none⟩ : Addr).add j) = some u := hown.cells (g := g) rfl
      have hr := run_append_grow_src (P := P) w t tx ty e i z ht hi hz (some ⟨g, 0, none⟩) n cap xs (run_firstCells_some w.drew i.size n ⟨g, 0, none⟩ n cap xs hown.1 holds) x m news hs (by omega) (by omega) (growslice_fits (by omega) hbytes)
      have hgr := grown cap (by omega) (Value.ownBlock (.slice (some ⟨g, 0, none⟩) n cap))
      exact ⟨_, _, hr, hgr.1, hgr.2, fun b hb => .inr (by simp [Value.ownBlock] at hb; omega)⟩

/-- The same, as one step of a region that draws. -/
theorem step_append_or {P : Program} {ops : Array Oper} {o : Oper} {a : Act} {w : World} {K : Act → World → Prop} {Q : Exit → Act → World → Prop} {E : Prop} (hgd : o.guard = none) (s x : Operand) (t tx : TypeId)
    (ho : o.op = .call { callee := .builtin .append, args := #[s, x], argTypes := #[t, tx] })
    (base : Nat) (e : TypeId) (i : TypeInfo) (z : Value) (size bytes : Nat) (ht : P.underlying t = some (.slice e)) (hi : P.info? e = some i) (hz : i.zero = some z)
    (hsize : i.size = size) (hby : i.bytes = bytes) (hzs : z.cells.size = size) (hzb : ∀ u ∈ z.cells.toList, ∀ x, u ≠ .bool x)
    (v : Value) (n : Nat) (xs : List Value) (hs : a.eval s = v) (H : ORow w base e size v n xs)
    (xv : Value) (m : Nat) (news : List Value) (hx : a.eval x = xv) (hsrc : Src P size tx xv m news w) (hnb : ∀ u ∈ news, ∀ x, u ≠ .bool x)
    (h63 : n + m ≤ maxLen) (hbytes : (n + m) * bytes ≤ 140737488355328) (hbase : base ≤ w.heap.size)
    (hK : ∀ v' w', ORow w' base e size v' (n + m) (xs ++ news) → w.grownBy w' v.ownBlock → (∀ b, v'.ownBlock = some b → v.ownBlock = some b ∨ w.heap.size ≤ b) → K (a.put o.dst v') w') :
    if Region.wanted o (yielded ops a.tmps) = true then Oper.wp P o a w K Q else E := by
  have hw : Region.wanted o (yielded ops a.tmps) = true := by simp [Region.wanted, hgd]
  rw [if_pos hw]
  obtain ⟨v', w', hrun, h1, h2, h3⟩ := run_append_or (P := P) base t tx o.type e i z size bytes ht hi hz hsize hby hzs hzb v n xs H xv m news hsrc hnb h63 hbytes hbase
  unfold Oper.wp
  simp [execOp, ho, resolve, invoke, builtin, hs, hx, hrun, Result.andThen]
  exact hK _ _ h1 h2 h3
end Go.Proofs.Ytenjjgghoacboaa
