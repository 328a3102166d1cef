/-
  A LOG AS PLAIN DATA, its rows and its block. Merged by gen/cat.sh.
-/
import Derived.Test.YtenjjgghoacboaaStoreF
import Derived.Test.YtenjjgghoacboaaDiskV
import Derived.Test.YtenjjgghoacboaaChainE
import Derived.Deep.OwnRows
import Derived.Deep.RegionWith
import Derived.Deep.QuietTactic
import Derived.BigQuiet
/-! ## LnV -/
/-
  A LOG AS PLAIN DATA (its requests, their places, what the committed ones make of a store); rows that are appended to and hold no bool; the log's block. No condition.
-/
namespace Go.Proofs.Ytenjjgghoacboaa
open Go.RowKit

/-! ### rows that hold no bool -/
/-- Block b holds cells, none of them a bool. -/
def NB (w : World) (b : Nat) : Prop := ∃ cs t, w.heap[b]? = some (.cells cs t (0, 0)) ∧ ∀ v ∈ cs.toList, ∀ x, v ≠ .bool x
theorem NB.no {w : World} {b : Nat} (h : NB w b) : NoBool w b := by
  obtain ⟨cs, t, hb, hn⟩ := h
  intro o x hx
  rw [show w.cell? ⟨b, o, none⟩ = cs[o]? by simp [World.cell?, hb]] at hx
  exact hn _ (by rw [← Array.getElem?_toList] at hx; exact List.mem_of_getElem? hx) x rfl
theorem NB.of {w w' : World} {b : Nat} (h : NB w b) (he : w'.heap[b]? = w.heap[b]?) : NB w' b := by
  obtain ⟨cs, t, hb, hn⟩ := h
  exact ⟨cs, t, he.trans hb, hn⟩
theorem NB.lt {w : World} {b : Nat} (h : NB w b) : b < w.heap.size := by obtain ⟨_, _, hb, _⟩ := h; exact lt_of_block hb

/-- A row of one's own that holds no bool. -/
structure ORow (w : World) (n : Nat) (e : TypeId) (size : Nat) (v : Value) (len : Nat) (xs : List Value) : Prop where
  own : w.ownsRow n e size v len xs
  nb : ∀ b, v.ownBlock = some b → NB w b
theorem ORow.none (w : World) (n : Nat) (e : TypeId) (size : Nat) : ORow w n e size (.slice Option.none 0 0) 0 [] := ⟨World.ownsRow_nil _ _ _ _, fun b hb => by cases hb⟩
theorem ORow.of {w w' : World} {n : Nat} {e : TypeId} {size : Nat} {v : Value} {len : Nat} {xs : List Value} (h : ORow w n e size v len xs) (hk : ∀ b, v.ownBlock = some b → w'.heap[b]? = w.heap[b]?) : ORow w' n e size v len xs :=
  ⟨ownsRow_on h.own hk, fun b hb => (h.nb b hb).of (hk b hb)⟩
theorem ORow.on {w w' : World} {n : Nat} {e : TypeId} {size : Nat} {v : Value} {len : Nat} {xs : List Value} (h : ORow w n e size v len xs) (hb : Below w.heap.size w w') : ORow w' n e size v len xs :=
  h.of fun b hx => hb.block b (h.own.lt b hx).2
theorem ORow.kind {w : World} {n : Nat} {e : TypeId} {size : Nat} {v : Value} {len : Nat} {xs : List Value} (h : ORow w n e size v len xs) {b : Nat} (hb : v.ownBlock = some b) : ∃ cs, w.heap[b]? = some (.cells cs e (0, 0)) := by
  rcases h.own.2 with ⟨rfl, _⟩ | ⟨g, cap, cur, rfl, _, hg, _⟩
  · cases hb
  · cases hb
    exact ⟨cur, hg⟩
theorem ORow.cell {w : World} {n : Nat} {e : TypeId} {size : Nat} {v : Value} {len : Nat} {xs : List Value} (h : ORow w n e size v len xs) (j : Nat) (x : Value) (hx : xs[j]? = some x) : ∃ b c, v = .slice (some ⟨b, 0, Option.none⟩) len c ∧ len ≤ c ∧ w.cell? ⟨b, j, Option.none⟩ = some x := by
  rcases h.own.2 with ⟨rfl, h0⟩ | ⟨g, cap, cur, rfl, _, hg, hle, _, _, ht⟩
  · have hl := h.own.1
    rw [h0, Nat.zero_mul] at hl
    rw [List.eq_nil_of_length_eq_zero hl] at hx
    simp at hx
  · refine ⟨g, cap, rfl, hle, ?_⟩
    rw [cell_of_row _ _ _ _ _ _ hg, ← Array.getElem?_toList]
    rw [← ht, List.getElem?_take] at hx
    split at hx
    · exact hx
    · cases hx

theorem mem_zeroCells {z : Array Value} {n : Nat} {v : Value} (h : v ∈ (Builtin.zeroCells z n).toList) : v ∈ z.toList := by
  unfold Builtin.zeroCells at h
  rw [Array.toList_map, Array.toList_range] at h
  obtain ⟨i, hi, rfl⟩ := List.mem_map.1 h
  have hi' := List.mem_range.1 hi
  have hz : 0 < z.size := by
    rcases Nat.eq_zero_or_pos z.size with h0 | h0
    · rw [h0, Nat.mul_zero] at hi'; omega
    · exact h0
  have hm : i % z.size < z.size := Nat.mod_lt _ hz
  rw [getElem!_pos z (i % z.size) hm]
  exact Array.getElem_mem_toList hm

/-- Append onto a row of one's own: no bool comes in; the row is the same one, or a new one. -/
theorem run_append_or {P : Program} {w : World} (base : Nat) (t tx ty e : TypeId) (i : TypeInfo) (z : Value) (size bytes : Nat) (ht : P.underlying t = some (.slice e)) (hi : P.info? e = some i) (hz : i.zero = some z)
    (hsize : i.size = size) (hby : i.bytes = bytes) (hzs : z.cells.size = size) (hzb : ∀ u ∈ z.cells.toList, ∀ x, u ≠ .bool x)
    (v : Value) (n : Nat) (xs : List Value) (H : ORow w base e size v n xs)
    (x : Value) (m : Nat) (news : List Value) (hs : Src P size tx x m news w) (hnb : ∀ u ∈ news, ∀ x, u ≠ .bool x)
    (h63 : n + m ≤ maxLen) (hbytes : (n + m) * bytes ≤ 140737488355328) (hbase : base ≤ w.heap.size) :
    ∃ v' w', (Builtin.append_ #[t, tx] ty #[v, x]).run P w = .ok v' w' ∧ ORow w' base e size v' (n + m) (xs ++ news) ∧ w.grownBy w' v.ownBlock ∧ (∀ b, v'.ownBlock = some b → v.ownBlock = some b ∨ w.heap.size ≤ b) := by
  have hown := H.own
  have hnbo := H.nb
  subst hsize
  subst hby
  have hl := hs.newsLen
  have hlen : (xs ++ news).length = (n + m) * i.size := by rw [List.length_append, hown.1, hl, Nat.add_mul]
  have hsm : n + m ≤ 9223372036854775807 := by simp only [maxLen] at h63; omega
  have hxb : ∀ u ∈ xs, ∀ x, u ≠ .bool x := by
    rcases hown.2 with ⟨rfl, rfl⟩ | ⟨g, cap, cur, rfl, hbg, hg, hnc, hcm, hcs, htake⟩
    · have hx : xs = [] := List.eq_nil_of_length_eq_zero (by simpa using hown.1)
      subst hx
      intro u hu; cases hu
    · obtain ⟨cs, t', hh, hn⟩ := hnbo g rfl
      rw [hg] at hh
      simp only [Option.some.injEq, Obj.cells.injEq] at hh
      obtain ⟨rfl, _, _⟩ := hh
      intro u hu
      rw [← htake] at hu
      exact hn u (List.mem_of_mem_take hu)
  have hab : ∀ u ∈ xs ++ news, ∀ x, u ≠ .bool x := fun u hu => (List.mem_append.1 hu).elim (hxb u) (hnb u)
  have grown : ∀ (old : Nat), old < n + m → ∀ (row : Option Nat),
      ORow (w.drew.alloc (.cells ((xs ++ news).toArray ++ Builtin.zeroCells z.cells (grownCap w (n + m) old e - (n + m))) e)) base e i.size
        (.slice (some ⟨w.heap.size, 0, none⟩) (n + m) (grownCap w (n + m) old e)) (n + m) (xs ++ news) ∧
      w.grownBy (w.drew.alloc (.cells ((xs ++ news).toArray ++ Builtin.zeroCells z.cells (grownCap w (n + m) old e - (n + m))) e)) row := by
    intro old ho row
    have hge := grownCap_ge w (n + m) old e
    have hcm : grownCap w (n + m) old e ≤ maxLen := grownCap_le_maxLen w (n + m) old e h63
    refine ⟨⟨⟨hlen, .inr ⟨w.heap.size, _, _, rfl, hbase, heap_alloc_new w.drew _, hge, hcm, ?_, ?_⟩⟩, fun b hb => ?_⟩, ⟨rfl, rfl, rfl, by simp, fun k hk _ => Below.heap_alloc w.drew _ k hk⟩⟩
    · simp only [Array.size_append, List.size_toArray, size_zeroCells, hzs, hlen, ← Nat.add_mul]
      congr 1
      omega
    · simp only [Array.toList_append]
      rw [← hlen]
      exact List.take_left
    · cases hb
      refine ⟨_, _, heap_alloc_new w.drew _, fun u hu => ?_⟩
      rw [Array.toList_append, List.mem_append] at hu
      rcases hu with hu | hu
      · exact hab u hu
      · exact hzb u (mem_zeroCells hu)
  rcases hown.2 with ⟨rfl, rfl⟩ | ⟨g, cap, cur, rfl, hbg, hg, hnc, hcm, hcs, htake⟩
  · have hx : xs = [] := List.eq_nil_of_length_eq_zero (by simpa using hown.1)
    subst hx
    by_cases hm : m = 0
    · subst hm
      have hn : news = [] := List.eq_nil_of_length_eq_zero (by simpa using hl)
      subst hn
      refine ⟨.slice none 0 0, w, ?_, ORow.none w base e i.size, ⟨rfl, rfl, rfl, Nat.le_refl _, fun _ _ _ => rfl⟩, fun _ hb => .inl hb⟩
      rcases hs.kind with ⟨e', hk⟩ | hk <;> simp [Builtin.append_, run_underlying ht, run_underlying hk, sizeOf, typeInfo, hi, hs.len, hs.cells]
    · have hr := run_append_grow_src (P := P) w t tx ty e i z ht hi hz none 0 0 [] (run_firstCells_none w.drew i.size 0 0 0) x m news hs (by omega) (by omega) (growslice_fits (by omega) (by simpa using hbytes))
      have hgr := grown 0 (by omega) (Value.ownBlock (.slice none 0 0))
      simp only [Nat.zero_add, List.nil_append] at hgr hr ⊢
      exact ⟨_, _, hr, hgr.1, hgr.2, fun b hb => .inr (by simp [Value.ownBlock] at hb; omega)⟩
  · by_cases hroom : n + m ≤ cap
    · have hfit : n * i.size + news.length ≤ cur.size := by rw [hl, hcs, ← Nat.add_mul]; exact Nat.mul_le_mul_right _ hroom
      have hst := run_storeCells_at P g (n * i.size) e news 0 cur w hg (by simpa using hfit) hs.one
      simp only [Nat.add_zero] at hst
      have hr : (Builtin.append_ #[t, tx] ty #[.slice (some ⟨g, 0, none⟩) n cap, x]).run P w =
          .ok (.slice (some ⟨g, 0, none⟩) (n + m) cap) (w.setRow g (cur.toList.take (n * i.size) ++ news ++ cur.toList.drop (n * i.size + news.length)).toArray) := by
        rcases hs.kind with ⟨e', hk⟩ | hk <;> simp [Builtin.append_, run_underlying ht, run_underlying hk, sizeOf, typeInfo, hi, hs.len, hroom, hs.cells, Addr.add_lit, hst]
      refine ⟨_, _, hr, ⟨⟨hlen, .inr ⟨g, cap, _, rfl, hbg, setRow_heap w g cur _ e _ hg, hroom, hcm, ?_, ?_⟩⟩, fun b hb => ?_⟩, ⟨rfl, rfl, rfl, by simp, fun k _ hk => setRow_other w g k _ (fun e => hk (by simp [Value.ownBlock, e]))⟩, fun _ hb => .inl hb⟩
      · simp only [List.size_toArray, List.length_append, List.length_take, List.length_drop, Array.length_toList]
        omega
      · rw [htake, ← hlen]
        exact List.take_left
      · cases hb
        obtain ⟨cs, t', hh, hn⟩ := hnbo g rfl
        rw [hg] at hh
        simp only [Option.some.injEq, Obj.cells.injEq] at hh
        obtain ⟨rfl, _, _⟩ := hh
        refine ⟨_, _, setRow_heap w g cur _ e _ hg, fun u hu => ?_⟩
        rcases List.mem_append.1 hu with hu | hu
        · rcases List.mem_append.1 hu with hu | hu
          · exact hn u (List.mem_of_mem_take hu)
          · exact hnb u hu
        · exact hn u (List.mem_of_mem_drop hu)
    · have holds : ∀ j u, xs[j]? = some u → w.drew.cell? ((⟨g, 0, none⟩ : Addr).add j) = some u := hown.cells (g := g) rfl
      have hr := run_append_grow_src (P := P) w t tx ty e i z ht hi hz (some ⟨g, 0, none⟩) n cap xs (run_firstCells_some w.drew i.size n ⟨g, 0, none⟩ n cap xs hown.1 holds) x m news hs (by omega) (by omega) (growslice_fits (by omega) hbytes)
      have hgr := grown cap (by omega) (Value.ownBlock (.slice (some ⟨g, 0, none⟩) n cap))
      exact ⟨_, _, hr, hgr.1, hgr.2, fun b hb => .inr (by simp [Value.ownBlock] at hb; omega)⟩

/-- The same, as one step of a region that draws. -/
theorem step_append_or {P : Program} {ops : Array Oper} {o : Oper} {a : Act} {w : World} {K : Act → World → Prop} {Q : Exit → Act → World → Prop} {E : Prop} (hgd : o.guard = none) (s x : Operand) (t tx : TypeId)
    (ho : o.op = .call { callee := .builtin .append, args := #[s, x], argTypes := #[t, tx] })
    (base : Nat) (e : TypeId) (i : TypeInfo) (z : Value) (size bytes : Nat) (ht : P.underlying t = some (.slice e)) (hi : P.info? e = some i) (hz : i.zero = some z)
    (hsize : i.size = size) (hby : i.bytes = bytes) (hzs : z.cells.size = size) (hzb : ∀ u ∈ z.cells.toList, ∀ x, u ≠ .bool x)
    (v : Value) (n : Nat) (xs : List Value) (hs : a.eval s = v) (H : ORow w base e size v n xs)
    (xv : Value) (m : Nat) (news : List Value) (hx : a.eval x = xv) (hsrc : Src P size tx xv m news w) (hnb : ∀ u ∈ news, ∀ x, u ≠ .bool x)
    (h63 : n + m ≤ maxLen) (hbytes : (n + m) * bytes ≤ 140737488355328) (hbase : base ≤ w.heap.size)
    (hK : ∀ v' w', ORow w' base e size v' (n + m) (xs ++ news) → w.grownBy w' v.ownBlock → (∀ b, v'.ownBlock = some b → v.ownBlock = some b ∨ w.heap.size ≤ b) → K (a.put o.dst v') w') :
    if Region.wanted o (yielded ops a.tmps) = true then Oper.wp P o a w K Q else E := by
  have hw : Region.wanted o (yielded ops a.tmps) = true := by simp [Region.wanted, hgd]
  rw [if_pos hw]
  obtain ⟨v', w', hrun, h1, h2, h3⟩ := run_append_or (P := P) base t tx o.type e i z size bytes ht hi hz hsize hby hzs hzb v n xs H xv m news hsrc hnb h63 hbytes hbase
  unfold Oper.wp
  simp [execOp, ho, resolve, invoke, builtin, hs, hx, hrun, Result.andThen]
  exact hK _ _ h1 h2 h3
end Go.Proofs.Ytenjjgghoacboaa

/-! ## LnP -/
/-
  A LOG AS PLAIN DATA: its requests' places by client and by id, the numbers that rise, what the first of them make of a store. No condition.
-/
namespace Go.Proofs.Ytenjjgghoacboaa
open Go.RowKit

theorem snoc_ind {P : List ReqV → Prop} (h0 : P []) (h1 : ∀ L r, P L → P (L ++ [r])) (L : List ReqV) : P L := by
  have : ∀ R : List ReqV, P R.reverse := fun R => by
    induction R with
    | nil => exact h0
    | cons r R ih => rw [List.reverse_cons]; exact h1 _ _ ih
  have h := this L.reverse
  rwa [List.reverse_reverse] at h
def rq0 : ReqV := ⟨0, 0, 0, 0, 0, ⟨#[]⟩⟩
/-- The request at the place k + 1. -/
def atL (L : List ReqV) (k : Nat) : ReqV := L.getD k rq0
theorem atL_lt {L : List ReqV} {k : Nat} (h : k < L.length) : atL L k = L[k] := by simp [atL, h]
theorem atL_app {L : List ReqV} (r : ReqV) {k : Nat} (h : k < L.length) : atL (L ++ [r]) k = atL L k := by
  unfold atL
  rw [List.getD_eq_getElem?_getD, List.getD_eq_getElem?_getD, List.getElem?_append_left h]
theorem atL_end (L : List ReqV) (r : ReqV) : atL (L ++ [r]) L.length = r := by simp [atL]
theorem atL_take {L : List ReqV} {k n : Nat} (h : k < n) : atL (L.take n) k = atL L k := by
  unfold atL
  rw [List.getD_eq_getElem?_getD, List.getD_eq_getElem?_getD, List.getElem?_take, if_pos h]

/-- Of the first n numbers those that are so. -/
def whichN (p : Nat → Bool) (n : Nat) : List Nat := (List.range n).filter p
theorem whichN_yes {p : Nat → Bool} {n : Nat} (h : p n = true) : whichN p (n + 1) = whichN p n ++ [n] := by simp [whichN, List.range_succ, h]
theorem whichN_no {p : Nat → Bool} {n : Nat} (h : p n = false) : whichN p (n + 1) = whichN p n := by simp [whichN, List.range_succ, h]
theorem whichN_congr {p p' : Nat → Bool} {n : Nat} (h : ∀ k, k < n → p k = p' k) : whichN p n = whichN p' n :=
  List.filter_congr fun k hk => h k (List.mem_range.1 hk)
theorem whichN_mem {p : Nat → Bool} {n k : Nat} : k ∈ whichN p n ↔ k < n ∧ p k = true := by simp [whichN]
theorem whichN_len (p : Nat → Bool) (n : Nat) : (whichN p n).length ≤ n := by
  have := List.length_filter_le p (List.range n)
  simpa [whichN] using this
theorem whichN_rise (p : Nat → Bool) : ∀ (n i j : Nat) (hj : j < (whichN p n).length) (hi : i < j), (whichN p n)[i] < (whichN p n)[j]
  | 0, i, j, hj, _ => by simp [whichN] at hj
  | n + 1, i, j, hj, hi => by
    cases h : p n with
    | false =>
      have e := whichN_no h
      have hj' : j < (whichN p n).length := by rwa [e] at hj
      have := whichN_rise p n i j hj' hi
      simpa [e] using this
    | true =>
      have e := whichN_yes h
      have hl : (whichN p (n + 1)).length = (whichN p n).length + 1 := by rw [e]; simp
      by_cases hjl : j < (whichN p n).length
      · have := whichN_rise p n i j hjl hi
        have h1 : (whichN p (n + 1))[i] = (whichN p n)[i] := by simp only [e]; exact List.getElem_append_left (by omega)
        have h2 : (whichN p (n + 1))[j] = (whichN p n)[j] := by simp only [e]; exact List.getElem_append_left hjl
        rw [h1, h2]; exact this
      · have hje : j = (whichN p n).length := by omega
        have hi' : i < (whichN p n).length := by omega
        have h1 : (whichN p (n + 1))[i] = (whichN p n)[i] := by simp only [e]; exact List.getElem_append_left hi'
        have h2 : (whichN p (n + 1))[j] = n := by subst hje; simp only [e]; simp
        rw [h1, h2]
        exact (whichN_mem.1 (List.getElem_mem hi')).1

def ofCl (L : List ReqV) (c : Nat) (k : Nat) : Bool := decide ((atL L k).client = (c : Int))
def ofId (L : List ReqV) (i : Nat) (k : Nat) : Bool := decide ((atL L k).id = (i : Int))
/-- A client's numbers of places (from nought on). -/
def clN (L : List ReqV) (c : Nat) : List Nat := whichN (ofCl L c) L.length
def idN (L : List ReqV) (i : Nat) : List Nat := whichN (ofId L i) L.length
theorem clN_app (L : List ReqV) (r : ReqV) (c : Nat) : clN (L ++ [r]) c = clN L c ++ if r.client = (c : Int) then [L.length] else [] := by
  have hl : (L ++ [r]).length = L.length + 1 := by simp
  have hc : whichN (ofCl (L ++ [r]) c) L.length = clN L c := whichN_congr fun k hk => by unfold ofCl; rw [atL_app r hk]
  unfold clN
  rw [hl]
  by_cases h : r.client = (c : Int)
  · rw [whichN_yes (by unfold ofCl; rw [atL_end]; exact decide_eq_true h), hc, if_pos h]; rfl
  · rw [whichN_no (by unfold ofCl; rw [atL_end]; exact decide_eq_false h), hc, if_neg h]; exact (List.append_nil _).symm
theorem idN_app (L : List ReqV) (r : ReqV) (i : Nat) : idN (L ++ [r]) i = idN L i ++ if r.id = (i : Int) then [L.length] else [] := by
  have hl : (L ++ [r]).length = L.length + 1 := by simp
  have hc : whichN (ofId (L ++ [r]) i) L.length = idN L i := whichN_congr fun k hk => by unfold ofId; rw [atL_app r hk]
  unfold idN
  rw [hl]
  by_cases h : r.id = (i : Int)
  · rw [whichN_yes (by unfold ofId; rw [atL_end]; exact decide_eq_true h), hc, if_pos h]; rfl
  · rw [whichN_no (by unfold ofId; rw [atL_end]; exact decide_eq_false h), hc, if_neg h]; exact (List.append_nil _).symm
theorem clN_mem {L : List ReqV} {c k : Nat} : k ∈ clN L c ↔ k < L.length ∧ (atL L k).client = (c : Int) := by
  unfold clN; rw [whichN_mem]; unfold ofCl; rw [decide_eq_true_eq]

/-- A client's places. -/
def placesL (L : List ReqV) (c : Nat) : List Int := (clN L c).map fun k : Nat => (k : Int) + 1
theorem placesL_app (L : List ReqV) (r : ReqV) (c : Nat) : placesL (L ++ [r]) c = placesL L c ++ if r.client = (c : Int) then [(L.length : Int) + 1] else [] := by
  unfold placesL
  rw [clN_app, List.map_append]
  split <;> rfl
theorem placesL_len (L : List ReqV) (c : Nat) : (placesL L c).length = (clN L c).length := by simp [placesL]
theorem placesL_le (L : List ReqV) (c : Nat) : (placesL L c).length ≤ L.length := by rw [placesL_len]; exact whichN_len _ _
theorem placesL_get (L : List ReqV) (c j : Nat) (h : j < (clN L c).length) : (placesL L c)[j]? = some (((clN L c)[j] : Int) + 1) := by simp [placesL, h]
/-- The last place of a request for an id. -/
def lastL (L : List ReqV) (i : Nat) : Int := match (idN L i).getLast? with | none => 0 | some k => (k : Int) + 1
theorem lastL_app (L : List ReqV) (r : ReqV) (i : Nat) : lastL (L ++ [r]) i = if r.id = (i : Int) then (L.length : Int) + 1 else lastL L i := by
  unfold lastL
  rw [idN_app]
  by_cases h : r.id = (i : Int)
  · rw [if_pos h, if_pos h]; simp
  · rw [if_neg h, if_neg h, List.append_nil]
theorem lastL_nil (i : Nat) : lastL [] i = 0 := rfl
/-- The last number of a client. -/
def seqL (L : List ReqV) (c : Nat) : Int := match (clN L c).getLast? with | none => 0 | some k => (atL L k).seq
theorem seqL_nil (c : Nat) : seqL [] c = 0 := rfl
theorem seqL_app (L : List ReqV) (r : ReqV) (c : Nat) : seqL (L ++ [r]) c = if r.client = (c : Int) then r.seq else seqL L c := by
  unfold seqL
  rw [clN_app]
  by_cases hr : r.client = (c : Int)
  · rw [if_pos hr, if_pos hr]; simp [atL_end]
  · rw [if_neg hr, if_neg hr, List.append_nil]
    cases h : (clN L c).getLast? with
    | none => rfl
    | some k =>
      have hk : k ∈ clN L c := List.mem_of_getLast? h
      show (atL (L ++ [r]) k).seq = _
      rw [atL_app r (clN_mem.1 hk).1]

/-- Each of a log's requests may be, writes, and has a number above its client's last one ahead. -/
def okL (L : List ReqV) : Prop := ∀ k, k < L.length → (atL L k).puts ∧ seqL (L.take k) (atL L k).client.toNat < (atL L k).seq
theorem okL_nil : okL [] := fun k hk => by simp at hk
theorem take_app_le {L : List ReqV} (r : ReqV) {k : Nat} (h : k ≤ L.length) : (L ++ [r]).take k = L.take k := by
  rw [List.take_append_of_le_length h]
theorem okL_app {L : List ReqV} {r : ReqV} (h : okL L) (hp : r.puts) (hs : seqL L r.client.toNat < r.seq) : okL (L ++ [r]) := by
  intro k hk
  rw [List.length_append, List.length_singleton] at hk
  by_cases e : k = L.length
  · subst e
    rw [atL_end, take_app_le r (Nat.le_refl _), List.take_length]
    exact ⟨hp, hs⟩
  · rw [atL_app r (by omega), take_app_le r (by omega)]
    exact h k (by omega)
theorem okL_take {L : List ReqV} (h : okL L) (n : Nat) : okL (L.take n) := by
  intro k hk
  rw [List.length_take] at hk
  rw [atL_take (by omega), List.take_take, Nat.min_eq_left (by omega)]
  exact h k (by omega)
theorem take_next {L : List ReqV} {k : Nat} (h : k < L.length) : L.take (k + 1) = L.take k ++ [atL L k] := by
  rw [List.take_succ_eq_append_getElem h, atL_lt h]

/-- What requests make of a store. -/
def stoOf (q : Int) (L : List ReqV) : StoV := L.foldl (fun s r => (putA s r).s) (newV q)
theorem stoOf_nil (q : Int) : stoOf q [] = newV q := rfl
theorem stoOf_app (q : Int) (L : List ReqV) (r : ReqV) : stoOf q (L ++ [r]) = (putA (stoOf q L) r).s := by simp [stoOf]
theorem stoOf_quota (q : Int) (L : List ReqV) : (stoOf q L).quota = q := by
  refine snoc_ind (P := fun L => (stoOf q L).quota = q) rfl (fun L r ih => ?_) L
  rw [stoOf_app, putA_quota, ih]
theorem stoOf_fit {q : Int} (h1 : 1 ≤ q) (h2 : q ≤ 100) (L : List ReqV) : Fit (stoOf q L) L.length := by
  refine snoc_ind (P := fun L => Fit (stoOf q L) L.length) (Fit.new q h1 h2) (fun L r ih => ?_) L
  rw [stoOf_app, List.length_append]
  exact ih.put r
/-- In a log's order each request is done, and its number is the client's last. -/
theorem stoOf_seq (q : Int) (L : List ReqV) (h : okL L) : (∀ c : Nat, c < 4 → ((stoOf q L).cl c).seq = seqL L c) ∧ (stoOf q L).places = L.length := by
  revert h
  refine snoc_ind (P := fun L => okL L → (∀ c : Nat, c < 4 → ((stoOf q L).cl c).seq = seqL L c) ∧ (stoOf q L).places = L.length) (fun _ => ⟨fun _ _ => rfl, rfl⟩) (fun L r ih => ?_) L
  · intro h
    have hL : okL L := by
      have := okL_take h L.length
      rwa [take_app_le r (Nat.le_refl _), List.take_length] at this
    obtain ⟨i1, i2⟩ := ih hL
    have hr := h L.length (by simp)
    rw [atL_end, take_app_le r (Nat.le_refl _), List.take_length] at hr
    obtain ⟨hp, hs⟩ := hr
    have hm := hp.1
    unfold ReqV.may at hm
    have hc : r.client.toNat < 4 := by omega
    have hn : ¬ r.seq ≤ ((stoOf q L).cl r.client.toNat).seq := by rw [i1 _ hc]; omega
    have e : stoOf q (L ++ [r]) = putV (stoOf q L) r.client.toNat r.id.toNat r.seq r.kind r.mtch r.data := by rw [stoOf_app, putA_done _ r hp hn]
    refine ⟨fun c hc' => ?_, ?_⟩
    · rw [e, seqL_app]
      show (updF (stoOf q L).cl r.client.toNat _ c).seq = _
      by_cases ec : c = r.client.toNat
      · subst ec
        rw [updF_same, if_pos (by omega)]
      · rw [updF_other _ _ _ _ ec, if_neg (by omega), i1 c hc']
    · rw [e]
      show (stoOf q L).places + 1 = _
      rw [i2]
      simp
theorem putA_okL (q : Int) {L : List ReqV} (h : okL L) {k : Nat} (hk : k < L.length) : (putA (stoOf q (L.take k)) (atL L k)).err = 0 ∧ (putA (stoOf q (L.take k)) (atL L k)).s = stoOf q (L.take (k + 1)) := by
  obtain ⟨hp, hs⟩ := h k hk
  have hm := hp.1
  unfold ReqV.may at hm
  have h1 := (stoOf_seq q (L.take k) (okL_take h k)).1 (atL L k).client.toNat (by omega)
  refine ⟨?_, by rw [take_next hk, stoOf_app]⟩
  rw [putA_done _ _ hp (by rw [h1]; omega)]

/-- Of one client, later ones have greater numbers. -/
theorem seqL_ge {L : List ReqV} (h : okL L) {k : Nat} (hk : k < L.length) : (atL L k).seq ≤ seqL L (atL L k).client.toNat := by
  revert h hk
  refine snoc_ind (P := fun L => okL L → k < L.length → (atL L k).seq ≤ seqL L (atL L k).client.toNat) (fun _ hk => by simp at hk) (fun L r ih => ?_) L
  · intro h hk
    have hL : okL L := by
      have := okL_take h L.length
      rwa [take_app_le r (Nat.le_refl _), List.take_length] at this
    have hr := h L.length (by simp)
    rw [atL_end, take_app_le r (Nat.le_refl _), List.take_length] at hr
    obtain ⟨hp, hs⟩ := hr
    have hm := hp.1
    unfold ReqV.may at hm
    rw [List.length_append, List.length_singleton] at hk
    by_cases e : k = L.length
    · subst e
      rw [atL_end, seqL_app, if_pos (by omega)]
      exact Int.le_refl _
    · have := ih hL (by omega)
      rw [atL_app r (by omega), seqL_app]
      split
      · rename_i hc
        have e2 : (atL L k).client.toNat = r.client.toNat := by rw [hc, Int.toNat_natCast]
        rw [e2] at this
        omega
      · exact this
theorem seq_rise {L : List ReqV} (h : okL L) {i j : Nat} (hij : i < j) (hj : j < L.length) (hc : (atL L i).client = (atL L j).client) : (atL L i).seq < (atL L j).seq := by
  have h1 := (h j hj).2
  have h2 := seqL_ge (okL_take h j) (k := i) (by rw [List.length_take]; omega)
  rw [atL_take hij, hc] at h2
  omega
theorem clN_seq {L : List ReqV} (h : okL L) (c : Nat) {i j : Nat} (hij : i < j) (hj : j < (clN L c).length) : (atL L (clN L c)[i]).seq < (atL L (clN L c)[j]).seq := by
  have h1 := whichN_rise (ofCl L c) L.length i j hj hij
  have m1 := clN_mem.1 (List.getElem_mem (show i < (clN L c).length by omega))
  have m2 := clN_mem.1 (List.getElem_mem hj)
  exact seq_rise h h1 m2.1 (m1.2.trans m2.2.symm)
/-- Where a client's request of a number stands. -/
def Stands (L : List ReqV) (c s : Int) (k : Nat) : Prop := k < L.length ∧ (atL L k).client = c ∧ (atL L k).seq = s
theorem Stands.one {L : List ReqV} (h : okL L) {c s : Int} {i j : Nat} (hi : Stands L c s i) (hj : Stands L c s j) : i = j := by
  obtain ⟨a1, a2, a3⟩ := hi
  obtain ⟨b1, b2, b3⟩ := hj
  rcases Nat.lt_trichotomy i j with hl | hl | hl
  · have := seq_rise h hl b1 (a2.trans b2.symm); omega
  · exact hl
  · have := seq_rise h hl a1 (b2.trans a2.symm); omega
end Go.Proofs.Ytenjjgghoacboaa

/-! ## LnW -/
/-
  THE LOG's BLOCK (forty cells), its rows and its store; New, isMade, Len, Committed, of, Last, Seq; of nil. No condition but that a log has at most a million requests.
-/
namespace Go.Proofs.Ytenjjgghoacboaa
open Go.RowKit

theorem Vers.only {S : Nat → Prop} {w w' : World} {B : Nat} {v : Value} {L : List VerV} (h : Vers w B v L) (hB : B ≤ w.heap.size) (hn : ∀ x, S x → x < w.heap.size → NoBool w x) (ho : Only S w w') : Vers w' B v L := by
  obtain ⟨ao, cap, rfl, h1, h2, h3, h4⟩ := h
  refine ⟨ao, cap, rfl, h1, h2, h3, fun hl => ?_⟩
  obtain ⟨c, off, rfl, hcB, hc⟩ := h4 hl
  have hne : ¬ S c := by
    intro hs
    have hpos : 0 < L.length := List.length_pos_iff.2 hl
    exact hn c hs (by omega) _ _ (hc 0 hpos).1
  exact ⟨c, off, rfl, hcB, fun j hj => ⟨(ho.cell (p := ⟨c, off + j * 2, Option.none⟩) (show c < _ by omega) hne).trans (hc j hj).1, (ho.cell (p := ⟨c, off + j * 2 + 1, Option.none⟩) (show c < _ by omega) hne).trans (hc j hj).2⟩⟩
theorem Sto.only {S : Nat → Prop} {y : Lay} {w w' : World} {b : Nat} {s : StoV} (h : Sto y w b s) (hb : ¬ S b) (hn : ∀ x, S x → x < w.heap.size → NoBool w x) (ho : Only S w w') : Sto y w' b s := by
  obtain ⟨f, hk, ht⟩ := h
  exact ⟨f, hk.of (ho.block b hk.lt hb), ht.vers fun v L hv => (hv.only (Nat.le_refl _) hn ho).mono ho.size⟩
theorem Besides.only {b : Nat} {w w' : World} (h : Besides b w w') : Only (· = b) w w' := ⟨h.os, h.tape, h.output, h.size, h.block⟩
theorem grown_only {w w' : World} {r : Option Nat} (h : w.grownBy w' r) : Only (fun x => r = some x) w w' := ⟨h.os, h.tape, h.output, h.size, fun k hk hn => h.block k hk fun e => hn e.symm⟩

/-- The cells of a request; of requests. -/
def reqC (r : ReqV) : List Value := [.int .i64 r.client, .int .i64 r.seq, .int .i64 r.kind, .int .i64 r.id, .int .i64 r.mtch, .string r.data]
def reqCs (L : List ReqV) : List Value := L.flatMap reqC
theorem reqCs_app (L : List ReqV) (r : ReqV) : reqCs L ++ reqC r = reqCs (L ++ [r]) := by simp [reqCs]
theorem reqCs_len (L : List ReqV) : (reqCs L).length = L.length * 6 := by
  induction L with
  | nil => rfl
  | cons r L ih =>
    have e : reqCs (r :: L) = reqC r ++ reqCs L := rfl
    rw [e, List.length_append, ih, List.length_cons]
    show 6 + L.length * 6 = _
    omega
theorem reqCs_get (L : List ReqV) : ∀ k, k < L.length → ∀ j, j < 6 → (reqCs L)[k * 6 + j]? = (reqC (atL L k))[j]? := by
  induction L with
  | nil => intro k hk; simp at hk
  | cons r L ih =>
    intro k hk j hj
    have e : reqCs (r :: L) = reqC r ++ reqCs L := rfl
    have hl : (reqC r).length = 6 := rfl
    rw [e]
    cases k with
    | zero => rw [Nat.zero_mul, Nat.zero_add, List.getElem?_append_left (by omega)]; rfl
    | succ k =>
      rw [List.getElem?_append_right (by omega), hl, show (k + 1) * 6 + j - 6 = k * 6 + j by omega, ih k (by simpa using hk) j hj]
      rfl
theorem reqC_nobool (r : ReqV) : ∀ u ∈ reqC r, ∀ x, u ≠ .bool x := by
  intro u hu x
  simp only [reqC, List.mem_cons, List.not_mem_nil, or_false] at hu
  rcases hu with rfl | rfl | rfl | rfl | rfl | rfl <;> simp
/-- A reply as a row has it. -/
structure RcV where
  code : Int
  ver : Int
  data : ByteArray
  lst : Value
def rcC (r : RcV) : List Value := [.int .i64 r.code, .int .i64 r.ver, .string r.data, r.lst]
def rcCs (K : List RcV) : List Value := K.flatMap rcC
theorem rcCs_app (K : List RcV) (r : RcV) : rcCs K ++ rcC r = rcCs (K ++ [r]) := by simp [rcCs]
def rc0 : RcV := ⟨0, 0, ⟨#[]⟩, .slice none 0 0⟩
theorem rcCs_get (K : List RcV) : ∀ k, k < K.length → ∀ j, j < 4 → (rcCs K)[k * 4 + j]? = (rcC (K.getD k rc0))[j]? := by
  induction K with
  | nil => intro k hk; simp at hk
  | cons r K ih =>
    intro k hk j hj
    have e : rcCs (r :: K) = rcC r ++ rcCs K := rfl
    have hl : (rcC r).length = 4 := rfl
    rw [e]
    cases k with
    | zero => rw [Nat.zero_mul, Nat.zero_add, List.getElem?_append_left (by omega)]; rfl
    | succ k =>
      rw [List.getElem?_append_right (by omega), hl, show (k + 1) * 4 + j - 4 = k * 4 + j by omega, ih k (by simpa using hk) j hj]
      rfl
theorem rcC_nobool (r : RcV) (h : Nil0 r.lst) : ∀ u ∈ rcC r, ∀ x, u ≠ .bool x := by
  intro u hu x
  obtain ⟨ao, cap, he, _⟩ := h
  simp only [rcC, List.mem_cons, List.not_mem_nil, or_false] at hu
  rcases hu with rfl | rfl | rfl | rfl <;> simp [he]

/-- The log's forty cells. -/
def linF (q : Int) (vq : Value) (vp : Nat → Value) (last : Nat → Int) (d : Nat) (vr : Value) (k : Nat) : Value :=
  if k = 0 then .int .i64 q else if k = 1 then vq else if k < 6 then vp (k - 2) else if k < 38 then .int .i64 (last (k - 6)) else if k = 38 then .pointer (some ⟨d, 0, none⟩) else vr
/-- What the reply to the request at a place is. -/
structure RepOf (q : Int) (L : List ReqV) (k : Nat) (r : RcV) : Prop where
  code : r.code = (putA (stoOf q (L.take k)) (atL L k)).code
  ver : r.ver = (putA (stoOf q (L.take k)) (atL L k)).ver
  data : r.data = (putA (stoOf q (L.take k)) (atL L k)).data
  lst : Nil0 r.lst
theorem RepOf.app {q : Int} {L : List ReqV} {k : Nat} {r : RcV} (h : RepOf q L k r) (x : ReqV) (hk : k < L.length) : RepOf q (L ++ [x]) k r := by
  obtain ⟨h1, h2, h3, h4⟩ := h
  have e : (L ++ [x]).take k = L.take k := take_app_le x (by omega)
  exact ⟨by rw [e, atL_app x hk]; exact h1, by rw [e, atL_app x hk]; exact h2, by rw [e, atL_app x hk]; exact h3, h4⟩

/-- The log's blocks. -/
def LB (g d : Nat) (vq vr : Value) (vp : Nat → Value) (x : Nat) : Prop := x = g ∨ x = d ∨ vq.ownBlock = some x ∨ vr.ownBlock = some x ∨ ∃ c, c < 4 ∧ (vp c).ownBlock = some x
/-- A log in memory, its parts each for itself: its block g, its store d, its rows; what lies there is from block n on. -/
structure Raw (w : World) (n g d : Nat) (vq vr : Value) (vp : Nat → Value) (q : Int) (last : Nat → Int) (L : List ReqV) (pls : Nat → List Int) (K : List RcV) (s : StoV) : Prop where
  blk : Blk w g 91 40 (linF q vq vp last d vr)
  row : ORow w n 34 6 vq L.length (reqCs L)
  reps : ORow w n 48 4 vr K.length (rcCs K)
  pl : ∀ c, c < 4 → ORow w n 3 1 (vp c) (pls c).length (intCells (pls c))
  ap : ∀ c c', c < 4 → c' < 4 → c ≠ c' → ∀ b, (vp c).ownBlock = some b → (vp c').ownBlock ≠ some b
  sto : Sto layP w d s
  lowg : n ≤ g
  lowd : n ≤ d
section
variable {w w' : World} {n g d : Nat} {vq vr : Value} {vp : Nat → Value} {q : Int} {last : Nat → Int} {L : List ReqV} {pls : Nat → List Int} {K : List RcV} {s : StoV}
theorem Raw.lt (h : Raw w n g d vq vr vp q last L pls K s) : g < w.heap.size := h.blk.lt
theorem Raw.nobool (h : Raw w n g d vq vr vp q last L pls K s) : NoBool w g := by
  refine h.blk.nobool fun k _ x => ?_
  obtain ⟨a1, c1, e1⟩ := own_shape h.row.own
  obtain ⟨a2, c2, e2⟩ := own_shape h.reps.own
  unfold linF
  split; · simp
  split; · simp [e1]
  split
  · rename_i h6
    obtain ⟨a3, c3, e3⟩ := own_shape (h.pl (k - 2) (by omega)).own
    simp [e3]
  split; · simp
  split; · simp
  simp [e2]
theorem Raw.all (h : Raw w n g d vq vr vp q last L pls K s) {x : Nat} (hx : LB g d vq vr vp x) : NoBool w x ∧ x < w.heap.size ∧ n ≤ x := by
  rcases hx with rfl | rfl | hx | hx | ⟨c, hc, hx⟩
  · exact ⟨h.nobool, h.lt, h.lowg⟩
  · exact ⟨h.sto.noBool, h.sto.lt, h.lowd⟩
  · exact ⟨(h.row.nb x hx).no, (h.row.nb x hx).lt, (h.row.own.lt x hx).1⟩
  · exact ⟨(h.reps.nb x hx).no, (h.reps.nb x hx).lt, (h.reps.own.lt x hx).1⟩
  · exact ⟨((h.pl c hc).nb x hx).no, ((h.pl c hc).nb x hx).lt, ((h.pl c hc).own.lt x hx).1⟩
theorem Raw.keep {S : Nat → Prop} (h : Raw w n g d vq vr vp q last L pls K s) (ho : Only S w w') (hs : ∀ x, LB g d vq vr vp x → ¬ S x) (hn : ∀ x, S x → x < w.heap.size → NoBool w x) : Raw w' n g d vq vr vp q last L pls K s := by
  have hk : ∀ x, LB g d vq vr vp x → w'.heap[x]? = w.heap[x]? := fun x hx => ho.block x (h.all hx).2.1 (hs x hx)
  exact ⟨h.blk.of (hk g (.inl rfl)), h.row.of fun b hb => hk b (.inr (.inr (.inl hb))), h.reps.of fun b hb => hk b (.inr (.inr (.inr (.inl hb)))), fun c hc => (h.pl c hc).of fun b hb => hk b (.inr (.inr (.inr (.inr ⟨c, hc, hb⟩)))), h.ap,
    h.sto.only (hs d (.inr (.inl rfl))) hn ho, h.lowg, h.lowd⟩
theorem Raw.on (h : Raw w n g d vq vr vp q last L pls K s) (hb : Below w.heap.size w w') : Raw w' n g d vq vr vp q last L pls K s := h.keep (S := fun _ => False) (.of hb) (fun _ _ h => h) (fun _ h => h.elim)
theorem Raw.c1 (h : Raw w n g d vq vr vp q last L pls K s) : w.cell? ⟨g, 1, none⟩ = some vq ∧ w.frozen? ⟨g, 1, none⟩ = false := ⟨h.blk.cell 1 (by decide), h.blk.free 1⟩
theorem Raw.cp (h : Raw w n g d vq vr vp q last L pls K s) (c : Nat) (hc : c < 4) : w.cell? ⟨g, 2 + c, none⟩ = some (vp c) ∧ w.frozen? ⟨g, 2 + c, none⟩ = false := by
  refine ⟨?_, h.blk.free _⟩
  rw [h.blk.cell (2 + c) (by omega)]
  unfold linF
  rw [if_neg (by omega), if_neg (by omega), if_pos (by omega), show 2 + c - 2 = c by omega]
theorem Raw.cl (h : Raw w n g d vq vr vp q last L pls K s) (i : Nat) (hi : i < 32) : w.cell? ⟨g, 6 + i, none⟩ = some (.int .i64 (last i)) ∧ w.frozen? ⟨g, 6 + i, none⟩ = false := by
  refine ⟨?_, h.blk.free _⟩
  rw [h.blk.cell (6 + i) (by omega)]
  unfold linF
  rw [if_neg (by omega), if_neg (by omega), if_neg (by omega), if_pos (by omega), show 6 + i - 6 = i by omega]
theorem Raw.cr (h : Raw w n g d vq vr vp q last L pls K s) : w.cell? ⟨g, 39, none⟩ = some vr ∧ w.frozen? ⟨g, 39, none⟩ = false := ⟨h.blk.cell 39 (by decide), h.blk.free 39⟩
theorem Raw.cd (h : Raw w n g d vq vr vp q last L pls K s) : w.cell? ⟨g, 38, none⟩ = some (.pointer (some ⟨d, 0, none⟩)) := h.blk.cell 38 (by decide)
/-- No two of its blocks are one (by their kinds). -/
theorem Raw.kinds (h : Raw w n g d vq vr vp q last L pls K s) : g ≠ d ∧ (∀ b, vq.ownBlock = some b → b ≠ g ∧ b ≠ d ∧ vr.ownBlock ≠ some b ∧ ∀ c, c < 4 → (vp c).ownBlock ≠ some b) ∧ (∀ b, vr.ownBlock = some b → b ≠ g ∧ b ≠ d ∧ ∀ c, c < 4 → (vp c).ownBlock ≠ some b) ∧ (∀ c, c < 4 → ∀ b, (vp c).ownBlock = some b → b ≠ g ∧ b ≠ d) := by
  obtain ⟨rg, hg, _⟩ := h.blk
  obtain ⟨fd, ⟨rd, hd, _⟩, _⟩ := h.sto
  have no : ∀ {x y : Nat} {cx cy : Array Value} {tx ty : TypeId}, w.heap[x]? = some (.cells cx tx (0, 0)) → w.heap[y]? = some (.cells cy ty (0, 0)) → tx ≠ ty → x ≠ y := by
    intro x y cx cy tx ty hx hy ht e
    rw [e, hy] at hx
    simp only [Option.some.injEq, Obj.cells.injEq] at hx
    exact ht hx.2.1.symm
  refine ⟨no hg hd (by decide), fun b hb => ?_, fun b hb => ?_, fun c hc b hb => ?_⟩
  · obtain ⟨cb, hbb⟩ := h.row.kind hb
    refine ⟨no hbb hg (by decide), no hbb hd (by decide), fun e => ?_, fun c hc e => ?_⟩
    · obtain ⟨ce, he⟩ := h.reps.kind e
      exact no hbb he (by decide) rfl
    · obtain ⟨ce, he⟩ := (h.pl c hc).kind e
      exact no hbb he (by decide) rfl
  · obtain ⟨cb, hbb⟩ := h.reps.kind hb
    refine ⟨no hbb hg (by decide), no hbb hd (by decide), fun c hc e => ?_⟩
    obtain ⟨ce, he⟩ := (h.pl c hc).kind e
    exact no hbb he (by decide) rfl
  · obtain ⟨cb, hbb⟩ := (h.pl c hc).kind hb
    exact ⟨no hbb hg (by decide), no hbb hd (by decide)⟩
theorem linF_last (q : Int) (vq : Value) (vp : Nat → Value) (last : Nat → Int) (d : Nat) (vr : Value) (i : Nat) (hi : i < 32) (m : Int) : ∀ k, updF (linF q vq vp last d vr) (6 + i) (.int .i64 m) k = linF q vq vp (updF last i m) d vr k := by
  intro k
  by_cases e : k = 6 + i
  · subst e
    rw [updF_same]
    unfold linF
    rw [if_neg (by omega), if_neg (by omega), if_neg (by omega), if_pos (by omega), show 6 + i - 6 = i by omega, updF_same]
  · rw [updF_other _ _ _ _ e]
    unfold linF
    split; · rfl
    split; · rfl
    split; · rfl
    split
    · rw [updF_other _ _ _ _ (by omega)]
    · rfl
theorem linF_pl (q : Int) (vq : Value) (vp : Nat → Value) (last : Nat → Int) (d : Nat) (vr : Value) (c : Nat) (hc : c < 4) (v : Value) : ∀ k, updF (linF q vq vp last d vr) (2 + c) v k = linF q vq (updF vp c v) last d vr k := by
  intro k
  by_cases e : k = 2 + c
  · subst e
    rw [updF_same]
    unfold linF
    rw [if_neg (by omega), if_neg (by omega), if_pos (by omega), show 2 + c - 2 = c by omega, updF_same]
  · rw [updF_other _ _ _ _ e]
    unfold linF
    split; · rfl
    split; · rfl
    split
    · rw [updF_other _ _ _ _ (by omega)]
    · rfl
theorem linF_req (q : Int) (vq : Value) (vp : Nat → Value) (last : Nat → Int) (d : Nat) (vr : Value) (v : Value) : ∀ k, updF (linF q vq vp last d vr) 1 v k = linF q v vp last d vr k := by
  intro k
  by_cases e : k = 1
  · subst e; rfl
  · rw [updF_other _ _ _ _ e]
    unfold linF
    rw [if_neg e, if_neg e]
theorem linF_rep (q : Int) (vq : Value) (vp : Nat → Value) (last : Nat → Int) (d : Nat) (vr : Value) (v : Value) : ∀ k, k < 40 → updF (linF q vq vp last d vr) 39 v k = linF q vq vp last d v k := by
  intro k hk
  by_cases e : k = 39
  · subst e; rfl
  · rw [updF_other _ _ _ _ e]
    unfold linF
    split; · rfl
    split; · rfl
    split; · rfl
    split; · rfl
    split; · rfl
    omega
theorem Blk.congr {w : World} {b : Nat} {t : TypeId} {n : Nat} {f f' : Nat → Value} (h : Blk w b t n f) (hf : ∀ k, k < n → f k = f' k) : Blk w b t n f' := by
  obtain ⟨row, h1, h2, h3⟩ := h
  exact ⟨row, h1, h2, fun k hk => by rw [h3 k hk, hf k hk]⟩
theorem Raw.setLast (h : Raw w n g d vq vr vp q last L pls K s) (i : Nat) (hi : i < 32) (m : Int) : Raw (w.setCell ⟨g, 6 + i, none⟩ (.int .i64 m)) n g d vq vr vp q (updF last i m) L pls K s := by
  have ho := Only.set g (6 + i) w (.int .i64 m)
  obtain ⟨k1, k2, k3, k4⟩ := h.kinds
  have hk : ∀ x, x < w.heap.size → x ≠ g → (w.setCell ⟨g, 6 + i, none⟩ (.int .i64 m)).heap[x]? = w.heap[x]? := fun x hx hn => ho.block x hx hn
  exact ⟨(h.blk.set (6 + i) _).congr fun k _ => linF_last q vq vp last d vr i hi m k, h.row.of fun b hb => hk b (h.row.own.lt b hb).2 (k2 b hb).1, h.reps.of fun b hb => hk b (h.reps.own.lt b hb).2 (k3 b hb).1, fun c hc => (h.pl c hc).of fun b hb => hk b ((h.pl c hc).own.lt b hb).2 (k4 c hc b hb).1, h.ap,
    h.sto.only (S := (· = g)) (fun e => k1 e.symm) (fun x hx _ => hx ▸ h.nobool) ho, h.lowg, h.lowd⟩
/-- Behind an append to the requests' row, and its store. -/
theorem Raw.setReq {w1 : World} {v2 : Value} {r : ReqV} (h : Raw w n g d vq vr vp q last L pls K s) (hown : ORow w1 n 34 6 v2 (L.length + 1) (reqCs L ++ reqC r)) (hg : w.grownBy w1 vq.ownBlock) (hv : ∀ b, v2.ownBlock = some b → vq.ownBlock = some b ∨ w.heap.size ≤ b) :
    Raw (w1.setCell ⟨g, 1, none⟩ v2) n g d v2 vr vp q last (L ++ [r]) pls K s ∧ w1.cell? ⟨g, 1, none⟩ = some vq ∧ w1.frozen? ⟨g, 1, none⟩ = false := by
  obtain ⟨k1, k2, k3, k4⟩ := h.kinds
  have hk1 : ∀ x, x < w.heap.size → vq.ownBlock ≠ some x → w1.heap[x]? = w.heap[x]? := fun x hx hn => hg.block x hx (fun e => hn e.symm)
  have hgn : vq.ownBlock ≠ some g := fun e => (k2 g e).1 rfl
  have hdn : vq.ownBlock ≠ some d := fun e => (k2 d e).2.1 rfl
  have hb1 : Blk w1 g 91 40 (linF q vq vp last d vr) := h.blk.of (hk1 g h.lt hgn)
  have hne : ∀ b, v2.ownBlock = some b → b ≠ g := fun b hb e => by
    subst e
    rcases hv b hb with h' | h'
    · exact hgn h'
    · have := h.lt; omega
  have ho := Only.set g 1 w1 v2
  have hk : ∀ x, x < w.heap.size → x ≠ g → vq.ownBlock ≠ some x → (w1.setCell ⟨g, 1, none⟩ v2).heap[x]? = w.heap[x]? := fun x hx hn hq => (ho.block x (Nat.lt_of_lt_of_le hx hg.size) hn).trans (hk1 x hx hq)
  have hog := grown_only hg
  refine ⟨⟨(hb1.set 1 v2).congr fun k _ => linF_req q vq vp last d vr v2 k, ?_, h.reps.of fun b hb => hk b (h.reps.own.lt b hb).2 (k3 b hb).1 (fun e => (k2 b e).2.2.1 hb), fun c hc => (h.pl c hc).of fun b hb => hk b ((h.pl c hc).own.lt b hb).2 (k4 c hc b hb).1 (fun e => (k2 b e).2.2.2 c hc hb), h.ap, ?_, h.lowg, h.lowd⟩, hb1.cell 1 (by decide), hb1.free 1⟩
  · rw [List.length_append, ← reqCs_app]
    exact hown.of fun b hb => ho.block b (hown.own.lt b hb).2 (hne b hb)
  · have s1 : Sto layP w1 d s := h.sto.only (S := fun x => vq.ownBlock = some x) hdn (fun x hx _ => (h.row.nb x hx).no) hog
    exact s1.only (S := (· = g)) (fun e => k1 e.symm) (fun x hx _ => by subst hx; intro o y hy; exact h.nobool o y (by rw [← hy]; exact (World.cell?_of_block (a := ⟨x, o, none⟩) (hk1 x h.lt hgn)).symm)) ho
/-- Behind an append to a row of places, and its store. -/
theorem Raw.setPl {w1 : World} {v2 : Value} {p : Int} {c : Nat} (hc : c < 4) (h : Raw w n g d vq vr vp q last L pls K s) (hown : ORow w1 n 3 1 v2 ((pls c).length + 1) (intCells (pls c) ++ [.int .i64 p])) (hg : w.grownBy w1 (vp c).ownBlock) (hv : ∀ b, v2.ownBlock = some b → (vp c).ownBlock = some b ∨ w.heap.size ≤ b) :
    Raw (w1.setCell ⟨g, 2 + c, none⟩ v2) n g d vq vr (updF vp c v2) q last L (updF pls c (pls c ++ [p])) K s ∧ w1.cell? ⟨g, 2 + c, none⟩ = some (vp c) ∧ w1.frozen? ⟨g, 2 + c, none⟩ = false := by
  obtain ⟨k1, k2, k3, k4⟩ := h.kinds
  have hk1 : ∀ x, x < w.heap.size → (vp c).ownBlock ≠ some x → w1.heap[x]? = w.heap[x]? := fun x hx hn => hg.block x hx (fun e => hn e.symm)
  have hgn : (vp c).ownBlock ≠ some g := fun e => (k4 c hc g e).1 rfl
  have hdn : (vp c).ownBlock ≠ some d := fun e => (k4 c hc d e).2 rfl
  have hb1 : Blk w1 g 91 40 (linF q vq vp last d vr) := h.blk.of (hk1 g h.lt hgn)
  have hne : ∀ b, v2.ownBlock = some b → b ≠ g := fun b hb e => by
    subst e
    rcases hv b hb with h' | h'
    · exact hgn h'
    · have := h.lt; omega
  have ho := Only.set g (2 + c) w1 v2
  have hk : ∀ x, x < w.heap.size → x ≠ g → (vp c).ownBlock ≠ some x → (w1.setCell ⟨g, 2 + c, none⟩ v2).heap[x]? = w.heap[x]? := fun x hx hn hq => (ho.block x (Nat.lt_of_lt_of_le hx hg.size) hn).trans (hk1 x hx hq)
  have hog := grown_only hg
  have hcell := (h.cp c hc).1
  refine ⟨⟨(hb1.set (2 + c) v2).congr fun k _ => linF_pl q vq vp last d vr c hc v2 k, h.row.of fun b hb => hk b (h.row.own.lt b hb).2 (k2 b hb).1 ((k2 b hb).2.2.2 c hc), h.reps.of fun b hb => hk b (h.reps.own.lt b hb).2 (k3 b hb).1 ((k3 b hb).2.2 c hc), fun c' hc' => ?_, ?_, ?_, h.lowg, h.lowd⟩, ?_, hb1.free _⟩
  · by_cases e : c' = c
    · subst e
      rw [updF_same, updF_same, List.length_append]
      have hx : intCells (pls c' ++ [p]) = intCells (pls c') ++ [.int .i64 p] := by simp [intCells]
      rw [hx]
      exact hown.of fun b hb => ho.block b (hown.own.lt b hb).2 (hne b hb)
    · rw [updF_other _ _ _ _ e, updF_other _ _ _ _ e]
      exact (h.pl c' hc').of fun b hb => hk b ((h.pl c' hc').own.lt b hb).2 (k4 c' hc' b hb).1 (fun e2 => h.ap c' c hc' hc e b hb e2)
  · intro a b ha hb hab x hx hy
    by_cases ea : a = c
    · subst ea
      rw [updF_same] at hx
      rw [updF_other _ _ _ _ (fun e => hab e.symm)] at hy
      rcases hv x hx with h' | h'
      · exact h.ap a b ha hb hab x h' hy
      · have := ((h.pl b hb).own.lt x hy).2; omega
    · rw [updF_other _ _ _ _ ea] at hx
      by_cases eb : b = c
      · subst eb
        rw [updF_same] at hy
        rcases hv x hy with h' | h'
        · exact h.ap a b ha hb hab x hx h'
        · have := ((h.pl a ha).own.lt x hx).2; omega
      · rw [updF_other _ _ _ _ eb] at hy
        exact h.ap a b ha hb hab x hx hy
  · have s1 : Sto layP w1 d s := h.sto.only (S := fun x => (vp c).ownBlock = some x) hdn (fun x hx _ => ((h.pl c hc).nb x hx).no) hog
    exact s1.only (S := (· = g)) (fun e => k1 e.symm) (fun x hx _ => by subst hx; intro o y hy; exact h.nobool o y (by rw [← hy]; exact (World.cell?_of_block (a := ⟨x, o, none⟩) (hk1 x h.lt hgn)).symm)) ho
  · rw [World.cell?_of_block (a := ⟨g, 2 + c, none⟩) (hk1 g h.lt hgn)]
    exact hcell
/-- Behind an append to the replies' row, and its store. -/
theorem Raw.setRep {w1 : World} {v2 : Value} {r : RcV} (h : Raw w n g d vq vr vp q last L pls K s) (hown : ORow w1 n 48 4 v2 (K.length + 1) (rcCs K ++ rcC r)) (hg : w.grownBy w1 vr.ownBlock) (hv : ∀ b, v2.ownBlock = some b → vr.ownBlock = some b ∨ w.heap.size ≤ b) :
    Raw (w1.setCell ⟨g, 39, none⟩ v2) n g d vq v2 vp q last L pls (K ++ [r]) s ∧ w1.cell? ⟨g, 39, none⟩ = some vr ∧ w1.frozen? ⟨g, 39, none⟩ = false := by
  obtain ⟨k1, k2, k3, k4⟩ := h.kinds
  have hk1 : ∀ x, x < w.heap.size → vr.ownBlock ≠ some x → w1.heap[x]? = w.heap[x]? := fun x hx hn => hg.block x hx (fun e => hn e.symm)
  have hgn : vr.ownBlock ≠ some g := fun e => (k3 g e).1 rfl
  have hdn : vr.ownBlock ≠ some d := fun e => (k3 d e).2.1 rfl
  have hb1 : Blk w1 g 91 40 (linF q vq vp last d vr) := h.blk.of (hk1 g h.lt hgn)
  have hne : ∀ b, v2.ownBlock = some b → b ≠ g := fun b hb e => by
    subst e
    rcases hv b hb with h' | h'
    · exact hgn h'
    · have := h.lt; omega
  have ho := Only.set g 39 w1 v2
  have hk : ∀ x, x < w.heap.size → x ≠ g → vr.ownBlock ≠ some x → (w1.setCell ⟨g, 39, none⟩ v2).heap[x]? = w.heap[x]? := fun x hx hn hq => (ho.block x (Nat.lt_of_lt_of_le hx hg.size) hn).trans (hk1 x hx hq)
  have hog := grown_only hg
  refine ⟨⟨(hb1.set 39 v2).congr fun k hk' => linF_rep q vq vp last d vr v2 k hk', h.row.of fun b hb => hk b (h.row.own.lt b hb).2 (k2 b hb).1 (fun e => (k2 b hb).2.2.1 e), ?_, fun c hc => (h.pl c hc).of fun b hb => hk b ((h.pl c hc).own.lt b hb).2 (k4 c hc b hb).1 (fun e => (k3 b e).2.2 c hc hb), h.ap, ?_, h.lowg, h.lowd⟩, hb1.cell 39 (by decide), hb1.free 39⟩
  · rw [List.length_append, ← rcCs_app]
    exact hown.of fun b hb => ho.block b (hown.own.lt b hb).2 (hne b hb)
  · have s1 : Sto layP w1 d s := h.sto.only (S := fun x => vr.ownBlock = some x) hdn (fun x hx _ => (h.reps.nb x hx).no) hog
    exact s1.only (S := (· = g)) (fun e => k1 e.symm) (fun x hx _ => by subst hx; intro o y hy; exact h.nobool o y (by rw [← hy]; exact (World.cell?_of_block (a := ⟨x, o, none⟩) (hk1 x h.lt hgn)).symm)) ho
/-- The log's store is turned. -/
theorem Raw.setSto {s' : StoV} (h : Raw w n g d vq vr vp q last L pls K s) (hb : Besides d w w') (hs : Sto layP w' d s') : Raw w' n g d vq vr vp q last L pls K s' := by
  obtain ⟨k1, k2, k3, k4⟩ := h.kinds
  have hk : ∀ x, x < w.heap.size → x ≠ d → w'.heap[x]? = w.heap[x]? := fun x hx hn => hb.block x hx hn
  exact ⟨h.blk.of (hk g h.lt k1), h.row.of fun b hb => hk b (h.row.own.lt b hb).2 (k2 b hb).2.1, h.reps.of fun b hb => hk b (h.reps.own.lt b hb).2 (k3 b hb).2.1, fun c hc => (h.pl c hc).of fun b hb => hk b ((h.pl c hc).own.lt b hb).2 (k4 c hc b hb).2, h.ap, hs, h.lowg, h.lowd⟩
end

/-- A log in memory. -/
structure Lin (w : World) (n g d : Nat) (vq vr : Value) (vp : Nat → Value) (q : Int) (L : List ReqV) (K : List RcV) : Prop where
  raw : Raw w n g d vq vr vp q (lastL L) L (placesL L) K (stoOf q (L.take K.length))
  kle : K.length ≤ L.length
  rep : ∀ k, k < K.length → RepOf q L k (K.getD k rc0)
  ok : okL L
  quo : 1 ≤ q ∧ q ≤ 100
section
variable {w w' : World} {n g d : Nat} {vq vr : Value} {vp : Nat → Value} {q : Int} {L : List ReqV} {K : List RcV}
theorem Lin.row (h : Lin w n g d vq vr vp q L K) : ORow w n 34 6 vq L.length (reqCs L) := h.raw.row
theorem Lin.reps (h : Lin w n g d vq vr vp q L K) : ORow w n 48 4 vr K.length (rcCs K) := h.raw.reps
theorem Lin.pl (h : Lin w n g d vq vr vp q L K) : ∀ c, c < 4 → ORow w n 3 1 (vp c) (placesL L c).length (intCells (placesL L c)) := h.raw.pl
theorem Lin.sto (h : Lin w n g d vq vr vp q L K) : Sto layP w d (stoOf q (L.take K.length)) := h.raw.sto
theorem Lin.lt (h : Lin w n g d vq vr vp q L K) : g < w.heap.size := h.raw.lt
theorem Lin.all (h : Lin w n g d vq vr vp q L K) {x : Nat} (hx : LB g d vq vr vp x) : NoBool w x ∧ x < w.heap.size ∧ n ≤ x := h.raw.all hx
theorem Lin.keep {S : Nat → Prop} (h : Lin w n g d vq vr vp q L K) (ho : Only S w w') (hs : ∀ x, LB g d vq vr vp x → ¬ S x) (hn : ∀ x, S x → x < w.heap.size → NoBool w x) : Lin w' n g d vq vr vp q L K := ⟨h.raw.keep ho hs hn, h.kle, h.rep, h.ok, h.quo⟩
theorem Lin.on (h : Lin w n g d vq vr vp q L K) (hb : Below w.heap.size w w') : Lin w' n g d vq vr vp q L K := ⟨h.raw.on hb, h.kle, h.rep, h.ok, h.quo⟩
theorem Lin.drewN (h : Lin w n g d vq vr vp q L K) (m : Nat) : Lin (w.drewN m) n g d vq vr vp q L K := h.on ⟨rfl, rfl, rfl, Nat.le_refl _, fun _ _ => rfl⟩
theorem Lin.len (h : Lin w n g d vq vr vp q L K) : ∃ a c, vq = .slice a L.length c := own_shape h.row.own
theorem Lin.rlen (h : Lin w n g d vq vr vp q L K) : ∃ a c, vr = .slice a K.length c := own_shape h.reps.own
theorem Lin.plen (h : Lin w n g d vq vr vp q L K) {c : Nat} (hc : c < 4) : ∃ a e, vp c = .slice a (placesL L c).length e := own_shape (h.pl c hc).own
theorem Lin.c0 (h : Lin w n g d vq vr vp q L K) : w.cell? ⟨g, 0, none⟩ = some (.int .i64 q) := h.raw.blk.cell 0 (by decide)
theorem Lin.c1 (h : Lin w n g d vq vr vp q L K) : w.cell? ⟨g, 1, none⟩ = some vq := h.raw.c1.1
theorem Lin.cp (h : Lin w n g d vq vr vp q L K) (c : Nat) (hc : c < 4) : w.cell? ⟨g, 2 + c, none⟩ = some (vp c) := (h.raw.cp c hc).1
theorem Lin.cl (h : Lin w n g d vq vr vp q L K) (i : Nat) (hi : i < 32) : w.cell? ⟨g, 6 + i, none⟩ = some (.int .i64 (lastL L i)) := (h.raw.cl i hi).1
theorem Lin.cd (h : Lin w n g d vq vr vp q L K) : w.cell? ⟨g, 38, none⟩ = some (.pointer (some ⟨d, 0, none⟩)) := h.raw.cd
theorem Lin.cr (h : Lin w n g d vq vr vp q L K) : w.cell? ⟨g, 39, none⟩ = some vr := h.raw.cr.1
/-- A request's cells in the row. -/
theorem row_req {a : Value} {N : List ReqV} (h : ORow w n 34 6 a N.length (reqCs N)) (k : Nat) (hk : k < N.length) : ∃ b c, a = .slice (some ⟨b, 0, none⟩) N.length c ∧ N.length ≤ c ∧ ReqCells w b (k * 6) (atL N k) := by
  have hg := reqCs_get N k hk
  obtain ⟨b, c, e, hc, c0⟩ := h.cell (k * 6) _ (by have := hg 0 (by omega); rw [Nat.add_zero] at this; exact this)
  have hj : ∀ j x, j < 6 → (reqC (atL N k))[j]? = some x → w.cell? ⟨b, k * 6 + j, none⟩ = some x := by
    intro j x hj hx
    obtain ⟨b', c', e', _, cj⟩ := h.cell (k * 6 + j) x ((hg j hj).trans hx)
    rw [e] at e'
    simp only [Value.slice.injEq, Option.some.injEq, Addr.mk.injEq] at e'
    obtain ⟨⟨rfl, _, _⟩, _, rfl⟩ := e'
    exact cj
  exact ⟨b, c, e, hc, hj 0 _ (by omega) rfl, hj 1 _ (by omega) rfl, hj 2 _ (by omega) rfl, hj 3 _ (by omega) rfl, hj 4 _ (by omega) rfl, hj 5 _ (by omega) rfl⟩
theorem Lin.req (h : Lin w n g d vq vr vp q L K) (k : Nat) (hk : k < L.length) : ∃ b c, vq = .slice (some ⟨b, 0, none⟩) L.length c ∧ L.length ≤ c ∧ ReqCells w b (k * 6) (atL L k) := row_req h.row k hk
end

/-! ### New -/
def lin0 (q : Int) (d : Nat) : List Value := (List.range 40).map (linF q (.slice none 0 0) (fun _ => .slice none 0 0) (lastL []) d (.slice none 0 0))
theorem lin_fresh (w : World) (n d : Nat) (q : Int) (row : Array Value) (hrow : row.toList = lin0 q d) (hs : Sto layP w d (newV q)) (hd : n ≤ d) (hn : n ≤ w.heap.size) (hq : 1 ≤ q ∧ q ≤ 100) :
    Lin (w.alloc (.cells row 91)) n w.heap.size d (.slice none 0 0) (.slice none 0 0) (fun _ => .slice none 0 0) q [] [] := by
  refine ⟨⟨⟨row, heap_alloc_new w _, by rw [← Array.length_toList, hrow]; simp [lin0], fun k hk => ?_⟩, ORow.none _ _ _ _, ORow.none _ _ _ _, fun c _ => ORow.none _ _ _ _, (fun _ _ _ _ _ b hb => by cases hb), hs.alloc _, hn, hd⟩, Nat.le_refl _, (fun k hk => absurd hk (Nat.not_lt_zero _)), okL_nil, hq⟩
  rw [← Array.getElem?_toList, hrow]
  simp [lin0, hk]
set_option maxRecDepth 100000 in
set_option maxHeartbeats 1000000 in
theorem lnew_yes (q : Int) (h1 : 1 ≤ q) (h2 : q ≤ 100) (w : World) : Calls Try.prog 11 #[.int .i64 q] w fun e w' => e = .returned (.tuple #[.pointer (some ⟨w.heap.size + 1, 0, none⟩), .int .i64 0]) ∧
    Lin w' w.heap.size (w.heap.size + 1) w.heap.size (.slice none 0 0) (.slice none 0 0) (fun _ => .slice none 0 0) q [] [] ∧ Below w.heap.size w w' := by
  have HS := Lib.hid (snew_r q h1 h2 w)
  go_enter Try.func11, Try.ntmps11
  go_wp2_with fail
  refine HS.out.mono ?_
  rintro e w1 ⟨rfl, S1, z1, B1⟩
  have H1 := Lib.hid S1
  have HZ := Lib.hid z1
  have HB := Lib.hid B1
  clear S1 z1 B1 HS
  go_wp2
  go_returns
  rw [HZ.out]
  refine ⟨rfl, ?_, HB.out.alloc HB.out.size _⟩
  have h := lin_fresh w1 w.heap.size w.heap.size q _ (by rfl) H1.out (Nat.le_refl _) HB.out.size ⟨h1, h2⟩
  rw [HZ.out] at h
  exact h
set_option maxHeartbeats 400000 in
theorem lnew_no (q : Int) (h : q < 1 ∨ 100 < q) (w : World) : Calls Try.prog 11 #[.int .i64 q] w fun e w' => e = .returned (.tuple #[.pointer none, .int .i64 1]) ∧ w = w' := by
  have HS := Lib.hid (snew_bad q h w)
  clear h
  go_enter Try.func11, Try.ntmps11
  go_wp2_with fail
  refine HS.out.mono ?_
  rintro e w1 ⟨rfl, rfl⟩
  go_wp2
  go_returns
  exact ⟨rfl, rfl⟩
end Go.Proofs.Ytenjjgghoacboaa
