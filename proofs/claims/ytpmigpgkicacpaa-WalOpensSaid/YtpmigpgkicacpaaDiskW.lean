/-
  A DISK's CALLS THAT TURN IT: Append, leave, Cut, Crash; what is copied: Bytes, Copy. No condition but that lengths stay below 2^47.
-/
import Derived.Test.YtpmigpgkicacpaaDiskV
import Derived.Deep.OwnRows
import Derived.Deep.DeepCutAuto
import Derived.BigRegion
import Derived.Deep.RegionWith
namespace Go.Proofs.Ytpmigpgkicacpaa
open Go.RowKit

theorem src_bytes {w : World} {B : Nat} {v : Value} {l : List UInt8} (h : Byt w B v l) : Src Try.prog 1 22 v l.length (Lib.byteCells l) w := by
  have h' := h
  obtain ⟨ao, cap, rfl, h1, h2, h3, h4⟩ := h
  cases ao with
  | some a => exact byt_src h'
  | none =>
    have hl : l = [] := List.eq_nil_of_length_eq_zero (by have := h3 rfl; omega)
    subst hl
    exact Src.ofNil w Try.underlying22 cap

/-- Append, whatever the source, onto a row that the call itself made: the row is the same one, or a new one. -/
theorem run_append_own_at {P : Program} {w : World} (base : Nat) (t tx ty e : TypeId) (i : TypeInfo) (z : Value) (size bytes : Nat) (ht : P.underlying t = some (.slice e)) (hi : P.info? e = some i) (hz : i.zero = some z)
    (hsize : i.size = size) (hby : i.bytes = bytes) (hzs : z.cells.size = size)
    (v : Value) (n : Nat) (xs : List Value) (hown : w.ownsRow base e size v n xs)
    (x : Value) (m : Nat) (news : List Value) (hs : Src P size tx x m news w)
    (h63 : n + m ≤ maxLen) (hbytes : (n + m) * bytes ≤ 140737488355328) (hbase : base ≤ w.heap.size) :
    ∃ v' w', (Builtin.append_ #[t, tx] ty #[v, x]).run P w = .ok v' w' ∧ w'.ownsRow base e size v' (n + m) (xs ++ news) ∧ w.grownBy w' v.ownBlock ∧ (∀ b, v'.ownBlock = some b → v.ownBlock = some b ∨ w.heap.size ≤ b) := by
  subst hsize
  subst hby
  have hl := hs.newsLen
  have hlen : (xs ++ news).length = (n + m) * i.size := by rw [List.length_append, hown.1, hl, Nat.add_mul]
  have hsm : n + m ≤ 9223372036854775807 := by simp only [maxLen] at h63; omega
  have grown : ∀ (old : Nat), old < n + m → ∀ (row : Option Nat),
      (w.drew.alloc (.cells ((xs ++ news).toArray ++ Builtin.zeroCells z.cells (grownCap w (n + m) old e - (n + m))) e)).ownsRow base e i.size
        (.slice (some ⟨w.heap.size, 0, none⟩) (n + m) (grownCap w (n + m) old e)) (n + m) (xs ++ news) ∧
      w.grownBy (w.drew.alloc (.cells ((xs ++ news).toArray ++ Builtin.zeroCells z.cells (grownCap w (n + m) old e - (n + m))) e)) row := by
    intro old ho row
    have hge := grownCap_ge w (n + m) old e
    have hcm : grownCap w (n + m) old e ≤ maxLen := grownCap_le_maxLen w (n + m) old e h63
    refine ⟨⟨hlen, .inr ⟨w.heap.size, _, _, rfl, hbase, heap_alloc_new w.drew _, hge, hcm, ?_, ?_⟩⟩, ⟨rfl, rfl, rfl, by simp, fun k hk _ => Below.heap_alloc w.drew _ k hk⟩⟩
    · simp only [Array.size_append, List.size_toArray, size_zeroCells, hzs, hlen, ← Nat.add_mul]
      congr 1
      omega
    · simp only [Array.toList_append]
      rw [← hlen]
      exact List.take_left
  rcases hown.2 with ⟨rfl, rfl⟩ | ⟨g, cap, cur, rfl, hbg, hg, hnc, hcm, hcs, htake⟩
  · have hx : xs = [] := List.eq_nil_of_length_eq_zero (by simpa using hown.1)
    subst hx
    by_cases hm : m = 0
    · subst hm
      have hn : news = [] := List.eq_nil_of_length_eq_zero (by simpa using hl)
      subst hn
      refine ⟨.slice none 0 0, w, ?_, World.ownsRow_nil w base e i.size, ⟨rfl, rfl, rfl, Nat.le_refl _, fun _ _ _ => rfl⟩, fun _ hb => .inl hb⟩
      rcases hs.kind with ⟨e', hk⟩ | hk <;> simp [Builtin.append_, run_underlying ht, run_underlying hk, sizeOf, typeInfo, hi, hs.len, hs.cells]
    · have hr := run_append_grow_src (P := P) w t tx ty e i z ht hi hz none 0 0 [] (run_firstCells_none w.drew i.size 0 0 0) x m news hs (by omega) (by omega) (growslice_fits (by omega) (by simpa using hbytes))
      have hgr := grown 0 (by omega) (Value.ownBlock (.slice none 0 0))
      simp only [Nat.zero_add, List.nil_append] at hgr hr ⊢
      exact ⟨_, _, hr, hgr.1, hgr.2, fun b hb => .inr (by simp [Value.ownBlock] at hb; omega)⟩
  · by_cases hroom : n + m ≤ cap
    · have hfit : n * i.size + news.length ≤ cur.size := by rw [hl, hcs, ← Nat.add_mul]; exact Nat.mul_le_mul_right _ hroom
      have hst := run_storeCells_at P g (n * i.size) e news 0 cur w hg (by simpa using hfit) hs.one
      simp only [Nat.add_zero] at hst
      have hr : (Builtin.append_ #[t, tx] ty #[.slice (some ⟨g, 0, none⟩) n cap, x]).run P w =
          .ok (.slice (some ⟨g, 0, none⟩) (n + m) cap) (w.setRow g (cur.toList.take (n * i.size) ++ news ++ cur.toList.drop (n * i.size + news.length)).toArray) := by
        rcases hs.kind with ⟨e', hk⟩ | hk <;> simp [Builtin.append_, run_underlying ht, run_underlying hk, sizeOf, typeInfo, hi, hs.len, hroom, hs.cells, Addr.add_lit, hst]
      refine ⟨_, _, hr, ⟨hlen, .inr ⟨g, cap, _, rfl, hbg, setRow_heap w g cur _ e _ hg, hroom, hcm, ?_, ?_⟩⟩, ⟨rfl, rfl, rfl, by simp, fun k _ hk => setRow_other w g k _ (fun e => hk (by simp [Value.ownBlock, e]))⟩, fun _ hb => .inl hb⟩
      · simp only [List.size_toArray, List.length_append, List.length_take, List.length_drop, Array.length_toList]
        omega
      · rw [htake, ← hlen]
        exact List.take_left
    · have holds : ∀ j u, xs[j]? = some u → w.drew.cell? ((⟨g, 0, none⟩ : Addr).add j) = some u := hown.cells (g := g) rfl
      have hr := run_append_grow_src (P := P) w t tx ty e i z ht hi hz (some ⟨g, 0, none⟩) n cap xs (run_firstCells_some w.drew i.size n ⟨g, 0, none⟩ n cap xs hown.1 holds) x m news hs (by omega) (by omega) (growslice_fits (by omega) hbytes)
      have hgr := grown cap (by omega) (Value.ownBlock (.slice (some ⟨g, 0, none⟩) n cap))
      exact ⟨_, _, hr, hgr.1, hgr.2, fun b hb => .inr (by simp [Value.ownBlock] at hb; omega)⟩

/-- The same, for the walk. -/
theorem wpList_append_own_at {P : Program} {w : World} {ops : Array Oper} {rest : List Oper} {o : Oper} {a : Act} {Q : Exit → Act → World → Prop} (hgd : o.guard = none) (s x : Operand) (t tx : TypeId)
    (ho : o.op = .call { callee := .builtin .append, args := #[s, x], argTypes := #[t, tx] })
    (base : Nat) (e : TypeId) (i : TypeInfo) (z : Value) (size bytes : Nat) (ht : P.underlying t = some (.slice e)) (hi : P.info? e = some i) (hz : i.zero = some z)
    (hsize : i.size = size) (hby : i.bytes = bytes) (hzs : z.cells.size = size)
    (v : Value) (n : Nat) (xs : List Value) (hs : a.eval s = v) (hown : w.ownsRow base e size v n xs)
    (xv : Value) (m : Nat) (news : List Value) (hx : a.eval x = xv) (hsrc : Src P size tx xv m news w)
    (h63 : n + m ≤ maxLen) (hbytes : (n + m) * bytes ≤ 140737488355328) (hbase : base ≤ w.heap.size)
    (hK : ∀ v' w', w'.ownsRow base e size v' (n + m) (xs ++ news) → w.grownBy w' v.ownBlock → (∀ b, v'.ownBlock = some b → v.ownBlock = some b ∨ w.heap.size ≤ b) → wpList P ops Q rest (a.put o.dst v') w') : wpList P ops Q (o :: rest) a w := by
  refine wpList_plain hgd fun K hK' => ?_
  obtain ⟨v', w', hrun, h1, h2, h3⟩ := run_append_own_at (P := P) base t tx o.type e i z size bytes ht hi hz hsize hby hzs v n xs hown xv m news hsrc h63 hbytes hbase
  unfold Oper.wp
  simp [execOp, ho, resolve, invoke, builtin, hs, hx, hrun, Result.andThen]
  exact hK' _ _ (hK v' w' h1 h2 h3)

set_option maxHeartbeats 1000000 in
theorem dappend_any {w : World} {n g : Nat} {v : Value} {xs : List UInt8} {k : Nat} (H : Dsk w n g v xs k) (hn : n ≤ w.heap.size) (u : Value) (ys : List UInt8) (B : Nat) (hy : Byt w B u ys) (hlim : xs.length + ys.length ≤ 140737488355328) :
    Calls Try.prog 28 #[.pointer (some ⟨g, 0, none⟩), u] w fun e w' => e = .returned (.tuple #[]) ∧ DR n g v (xs ++ ys) k w w' := by
  obtain ⟨i0, hi, hz0, hz1, hz2⟩ := info_parts info_u8
  obtain ⟨c0, c1, z0, z1⟩ := H.cells
  have HH := Lib.hid H
  have HS := Lib.hid (src_bytes hy)
  obtain ⟨ua, un, uc, rfl⟩ : ∃ a n c, u = .slice a n c := by obtain ⟨ao, cap, rfl, _⟩ := hy; exact ⟨_, _, _, rfl⟩
  clear H hy
  go_enter Try.func28, Try.ntmps28
  go_wp2_with (at_builtin; refine wpList_append_own_at rfl (.tmp 10) (.tmp 11) 22 22 rfl n 5 i0 (.int .u8 0) 1 1 Try.underlying22 hi hz0 hz1 hz2 rfl _ _ _ rfl HH.out.row _ ys.length (Lib.byteCells ys) rfl HS.out ?c3 ?c4 ?c5 ?_)
  case c3 => unfold maxLen; omega
  case c4 => omega
  case c5 => exact hn
  intro v' w1 hown hgrow hv'
  have hb1 : w1.heap[g]? = some (.cells #[v, .int .i64 k] 58 (0, 0)) := (hgrow.block g HH.out.lt (fun e => HH.out.ne g e.symm rfl)).trans HH.out.blk
  have hO : Only (dblks g v) w w1 := ⟨hgrow.os, hgrow.tape, hgrow.output, hgrow.size, fun x hx hn => hgrow.block x hx fun e => hn (.inr e.symm)⟩
  have e0 : w1.cell? ⟨g, 0, none⟩ = some v := by simp [World.cell?, hb1]
  have y0 : w1.frozen? ⟨g, 0, none⟩ = false := by simp [World.frozen?, hb1]
  have HB := Lib.hid hb1
  have HO := Lib.hid hO
  have HV := Lib.hid hv'
  have HR := Lib.hid hown
  obtain ⟨a', c', rfl⟩ := own_shape hown
  clear hb1 hO hv' hown hgrow c0 c1 z0 z1
  go_wp2
  go_end0
  have hne : ∀ b, Value.ownBlock (.slice a' (xs.length + ys.length) c') = some b → b ≠ g := fun b hb e => by
    rcases HV.out b hb with h | h
    · exact HH.out.ne b h e
    · have := HH.out.lt; omega
  refine ⟨rfl, _, ⟨?_, ?_, hne, HH.out.low, ?_⟩, HV.out, HO.out.then (Only.set g 0 _ _) fun x _ hx => .inl hx⟩
  · rw [heap_setCell_same _ _ _ _ _ _ HB.out]; rfl
  · rw [List.length_append, show Lib.byteCells (xs ++ ys) = Lib.byteCells xs ++ Lib.byteCells ys from List.map_append ..]
    exact ownsRow_on HR.out fun b hb => (Only.set g 0 w1 _).block b (HR.out.lt b hb).2 (hne b hb)
  · rw [List.length_append]; have := HH.out.le; omega

/-- What a copy onto a new row of the same length leaves. -/
theorem run_copied {w : World} {B : Nat} {ao : Option Addr} {cap : Nat} {l : List UInt8} (hB : Byt w B (.slice ao l.length cap) l) (hBw : B ≤ w.heap.size) :
    ∃ w2, (Builtin.copy_ #[22, 22] 3 #[.slice (some ⟨w.heap.size, 0, none⟩) l.length l.length, .slice ao l.length cap]).run Try.prog (w.alloc (.cells (madeCells #[Value.int .u8 0] l.length) 5)) = .ok (.int .i64 l.length) w2 ∧
      w2.heap[w.heap.size]? = some (.cells (Lib.byteCells l).toArray 5 (0, 0)) ∧ Below w.heap.size w w2 := by
  have hs : (Try.prog.info? 5).map (·.size) = some 1 := by kernel_rfl
  have hsz : (madeCells #[Value.int .u8 0] l.length).size = l.length := size_madeCells _ _
  have hal := (Below.refl w.heap.size w).alloc (Nat.le_refl _) (.cells (madeCells #[Value.int .u8 0] l.length) 5)
  obtain ⟨ao', cap', he, h1, h2, h3, h4⟩ := hB
  simp only [Value.slice.injEq, true_and] at he
  obtain ⟨rfl, rfl⟩ := he
  by_cases hl : l = []
  · subst hl
    refine ⟨_, run_copy_none (P := Try.prog) _ 22 22 3 5 _ _ _ _ _ _ Try.underlying22 hs (by simp), ?_, hal⟩
    rw [heap_alloc_new w _, Array.eq_empty_of_size_eq_zero hsz]
    rfl
  · obtain ⟨b, off, rfl, hb, hc⟩ := h4 hl
    have hrun := run_copy_row (P := Try.prog) (w.alloc (.cells (madeCells #[Value.int .u8 0] l.length) 5)) 22 22 3 5 w.heap.size 0 l.length l.length ⟨b, off, none⟩ l.length cap _ 5 (Lib.byteCells l) Try.underlying22 hs (heap_alloc_new w _)
      (by rw [Lib.byteCells_length]; exact (Nat.min_self _).symm) (by
        intro j v hv
        have hj : j < l.length := by have := (List.getElem?_eq_some_iff.1 hv).1; rwa [Lib.byteCells_length] at this
        rw [byteCells_get l j hj] at hv
        rw [Addr.add_lit, ← hv]
        exact (hal.cell (p := ⟨b, off + j, none⟩) (by show b < w.heap.size; omega)).trans (hc j hj)) (by rw [Lib.byteCells_length, hsz]; omega) (by intro u hu; obtain ⟨_, _, rfl⟩ := List.mem_map.1 hu; rfl)
    rw [Lib.byteCells_length] at hrun
    refine ⟨_, hrun, ?_, hal.trans ⟨rfl, rfl, rfl, by simp [World.setRow], fun k hk => setRow_other _ _ k _ (by omega)⟩⟩
    rw [setRow_heap _ _ _ _ 5 _ (heap_alloc_new w _)]
    congr 3
    rw [List.take_zero, List.nil_append, Nat.zero_add, List.drop_eq_nil_of_le (by rw [Array.length_toList, hsz]; omega), List.append_nil]

set_option maxHeartbeats 1000000 in
theorem dcopied_any (v : Value) (B : Nat) (l : List UInt8) (w : World) (hB : Byt w B v l) (hBw : B ≤ w.heap.size) (hlim : l.length ≤ 140737488355328) :
    Calls Try.prog 30 #[v] w fun e w' => ∃ v', e = .returned v' ∧ w'.ownsRow w.heap.size 5 1 v' l.length (Lib.byteCells l) ∧ Below w.heap.size w w' := by
  have hmk := fun u : World => run_make_row' (P := Try.prog) 22 5 (.int .u8 0) 1 Try.underlying22 info_u8 rfl .i64 .i64 l.length (by omega) (by omega) u
  obtain ⟨ao, cap, rfl, _⟩ := id hB
  obtain ⟨w2, hcp, hg, hb⟩ := run_copied hB hBw
  have HG := Lib.hid hg
  have HB := Lib.hid hb
  clear hB hg hb
  go_enter Try.func30, Try.ntmps30
  go_wp2
  go_returns
  refine ⟨_, rfl, ⟨by rw [Lib.byteCells_length]; omega, .inr ⟨w.heap.size, l.length, _, rfl, Nat.le_refl _, HG.out, Nat.le_refl _, by unfold maxLen; omega, by rw [List.size_toArray, Lib.byteCells_length]; omega, ?_⟩⟩, HB.out⟩
  rw [Nat.mul_one, ← Lib.byteCells_length l]
  exact List.take_length

set_option maxHeartbeats 1000000 in
theorem dbytes_any {w : World} {n g : Nat} {v : Value} {xs : List UInt8} {k : Nat} (H : Dsk w n g v xs k) (hlim : xs.length ≤ 140737488355328) :
    Calls Try.prog 18 #[.pointer (some ⟨g, 0, none⟩)] w fun e w' => ∃ v', e = .returned v' ∧ w'.ownsRow w.heap.size 5 1 v' xs.length (Lib.byteCells xs) ∧ Below w.heap.size w w' := by
  obtain ⟨c0, c1, z0, z1⟩ := H.cells
  have HC := Lib.hid (dcopied_any v _ xs w H.byt (Nat.le_refl _) hlim)
  clear H
  go_enter Try.func18, Try.ntmps18
  go_wp2_with fail
  refine HC.out.mono ?_
  rintro e w1 ⟨v', rfl, h1, h2⟩
  go_wp2
  go_returns
  exact ⟨v', rfl, h1, h2⟩

/-- The row of which the first m are left. -/
theorem ownsRow_front {w : World} {n b c : Nat} {xs : List UInt8} (h : w.ownsRow n 5 1 (.slice (some ⟨b, 0, none⟩) xs.length c) xs.length (Lib.byteCells xs)) {m : Nat} (hm : m ≤ xs.length) :
    w.ownsRow n 5 1 (.slice (some ⟨b, 0, none⟩) m c) (xs.take m).length (Lib.byteCells (xs.take m)) := by
  rcases h.2 with ⟨he, _⟩ | ⟨g, cap, cur, he, hg, hh, hnc, hcm, hcs, htake⟩
  · simp at he
  · simp only [Value.slice.injEq, Option.some.injEq, Addr.mk.injEq, and_true, true_and] at he
    obtain ⟨rfl, rfl⟩ := he
    have hl : (xs.take m).length = m := by rw [List.length_take]; omega
    refine ⟨by rw [Lib.byteCells_length]; omega, .inr ⟨_, _, cur, by rw [hl], hg, hh, by omega, hcm, hcs, ?_⟩⟩
    rw [hl, Nat.mul_one, show Lib.byteCells (xs.take m) = (Lib.byteCells xs).take m from List.map_take .., ← htake, List.take_take, Nat.mul_one, Nat.min_eq_left hm]

set_option maxHeartbeats 400000 in
theorem dsync_raw {w : World} {g l c : Nat} {a : Option Addr} {x : Value} (hb : w.heap[g]? = some (.cells #[.slice a l c, x] 58 (0, 0))) :
    Calls Try.prog 16 #[.pointer (some ⟨g, 0, none⟩)] w fun e w' => e = .returned (.tuple #[]) ∧ w' = w.setCell ⟨g, 1, none⟩ (.int .i64 l) := by
  have c0 : w.cell? ⟨g, 0, none⟩ = some (.slice a l c) := by simp [World.cell?, hb]
  have c1 : w.cell? ⟨g, 1, none⟩ = some x := by simp [World.cell?, hb]
  have z1 : w.frozen? ⟨g, 1, none⟩ = false := by simp [World.frozen?, hb]
  clear hb
  go_enter Try.func16, Try.ntmps16
  go_wp2
  go_end0
  exact ⟨rfl, rfl⟩

set_option maxHeartbeats 1000000 in
theorem dleave_any {w : World} {n g : Nat} {v : Value} {xs : List UInt8} {k : Nat} (H : Dsk w n g v xs k) (m : Nat) (hm : m ≤ xs.length) :
    Calls Try.prog 29 #[.pointer (some ⟨g, 0, none⟩), .int .i64 m] w fun e w' => e = .returned (.tuple #[]) ∧ DR n g v (xs.take m) m w w' := by
  obtain ⟨c0, c1, z0, z1⟩ := H.cells
  have hl : (xs.take m).length = m := by rw [List.length_take]; omega
  have HH := Lib.hid H
  obtain ⟨a, c, rfl, ⟨rfl, rfl, hx⟩ | ⟨b, rfl, hc⟩⟩ := H.shape
  · subst hx
    obtain rfl : m = 0 := by simpa using hm
    have h1 : (w.setCell ⟨g, 0, none⟩ (.slice none 0 0)).heap[g]? = some (.cells #[.slice none 0 0, .int .i64 k] 58 (0, 0)) := by
      rw [heap_setCell_same _ _ _ _ _ _ HH.out.blk]; rfl
    have HS := Lib.hid (dsync_raw h1)
    have H1 := Lib.hid h1
    clear H hl h1
    go_enter Try.func29, Try.ntmps29
    go_wp2_with fail
    refine HS.out.mono ?_
    rintro e w2 ⟨rfl, rfl⟩
    go_wp2
    go_end0
    refine ⟨rfl, .same ⟨?_, ownsRow_on HH.out.row (fun b hb => by simp [Value.ownBlock] at hb), HH.out.ne, HH.out.low, Nat.zero_le _⟩ ((Only.set g 0 w _).trans (Only.set g 1 _ _) |>.mono fun x _ hx => .inl hx)⟩
    rw [heap_setCell_same _ _ _ _ _ _ H1.out]; rfl
  · have h1 : (w.setCell ⟨g, 0, none⟩ (.slice (some ⟨b, 0, none⟩) m c)).heap[g]? = some (.cells #[.slice (some ⟨b, 0, none⟩) m c, .int .i64 k] 58 (0, 0)) := by
      rw [heap_setCell_same _ _ _ _ _ _ HH.out.blk]; rfl
    have HS := Lib.hid (dsync_raw h1)
    have H1 := Lib.hid h1
    have HL := Lib.hid hl
    clear H hl h1
    go_enter Try.func29, Try.ntmps29
    go_wp2_with fail
    refine HS.out.mono ?_
    rintro e w2 ⟨rfl, rfl⟩
    go_wp2
    go_end0
    have O : Only (· = g) w ((w.setCell ⟨g, 0, none⟩ (.slice (some ⟨b, 0, none⟩) m c)).setCell ⟨g, 1, none⟩ (.int .i64 m)) := (Only.set g 0 w _).trans (Only.set g 1 _ _)
    refine ⟨rfl, _, ⟨?_, ownsRow_on (ownsRow_front HH.out.row hm) fun x hx => O.block x (HH.out.rowlt x hx).2 (HH.out.ne x hx), fun x hx => HH.out.ne x hx, HH.out.low, by rw [HL.out]; exact Nat.le_refl _⟩, fun x hx => .inl hx, O.mono fun x _ hx => .inl hx⟩
    rw [heap_setCell_same _ _ _ _ _ _ H1.out]; rfl

/-- How many bytes of the first k and the rest a crash leaves. -/
def crashN (len k : Nat) (keep : Int) : Nat := k + min keep.toNat (len - k)

set_option maxHeartbeats 1000000 in
theorem dcrash_any {w : World} {n g : Nat} {v : Value} {xs : List UInt8} {k : Nat} (H : Dsk w n g v xs k) (hlim : xs.length ≤ 140737488355328) (keep : Int) :
    Calls Try.prog 17 #[.pointer (some ⟨g, 0, none⟩), .int .i64 keep] w fun e w' => e = .returned (.tuple #[]) ∧ DR n g v (xs.take (crashN xs.length k keep)) (crashN xs.length k keep) w w' := by
  obtain ⟨c0, c1, z0, z1⟩ := H.cells
  have hle := H.le
  obtain ⟨m, hm⟩ : ∃ m, m = crashN xs.length k keep := ⟨_, rfl⟩
  rw [← hm]
  have HL : Hid (∀ q (x : Int), x = (m : Int) → Calls Try.prog 29 #[.pointer (some ⟨g, 0, none⟩), .int .i64 x] (w.drewN q) fun e w' => e = .returned (.tuple #[]) ∧ DR n g v (xs.take m) m w w') := by
    intro q x hx
    subst hx
    refine (dleave_any (H.drewN q) m (by rw [hm]; unfold crashN; omega)).mono fun e w' ⟨he, v', h1, h2, h3⟩ => ⟨he, v', h1, h2, (Only.drewN _ w q).trans h3⟩
  obtain ⟨a, c, rfl, _⟩ := H.shape
  have HM := Lib.hid hm
  clear H hm
  have s1 : IntKind.i64.wrap ((xs.length : Int) - (k : Int)) = (xs.length : Int) - (k : Int) := IntWalk.i64_in _ (by omega)
  go_enter Try.func17, Try.ntmps17
  go_wp2_with fail
  go_quiet (fail)
  go_wp2_with (first | (go_at_call 29; (with_reducible refine (HL.out _ _ (by rw [HM.out]; unfold crashN; first | omega | (split at * <;> omega))).mono ?_); rintro e w2 ⟨rfl, hr⟩; have HR := Lib.hid hr; clear hr))
  all_goals
    go_end0
    exact ⟨rfl, HR.out⟩

set_option maxHeartbeats 1000000 in
theorem dcut_any {w : World} {n g : Nat} {v : Value} {xs : List UInt8} {k : Nat} (H : Dsk w n g v xs k) (m : Nat) (hm : m ≤ xs.length) :
    Calls Try.prog 31 #[.pointer (some ⟨g, 0, none⟩), .int .i64 m] w fun e w' => e = .returned (.int .i64 0) ∧ DR n g v (xs.take m) m w w' := by
  obtain ⟨c0, c1, z0, z1⟩ := H.cells
  have HL := Lib.hid (dleave_any H m hm)
  obtain ⟨a, c, rfl, _⟩ := H.shape
  clear H
  go_enter Try.func31, Try.ntmps31
  go_wp2_with fail
  all_goals first
    | (exfalso; omega)
    | skip
  refine HL.out.mono ?_
  rintro e w1 ⟨rfl, hr⟩
  go_wp2
  go_returns
  exact ⟨rfl, hr⟩

set_option maxHeartbeats 1000000 in
theorem dcut_out {w : World} {n g : Nat} {v : Value} {xs : List UInt8} {k : Nat} (H : Dsk w n g v xs k) (x : Int) (hx : x < 0 ∨ (xs.length : Int) < x) :
    Calls Try.prog 31 #[.pointer (some ⟨g, 0, none⟩), .int .i64 x] w fun e w' => e = .returned (.int .i64 6) ∧ w = w' := by
  obtain ⟨c0, c1, z0, z1⟩ := H.cells
  obtain ⟨a, c, rfl, _⟩ := H.shape
  clear H
  by_cases h0 : x < 0
  · go_enter Try.func31, Try.ntmps31
    go_wp2_with fail
    all_goals first
      | (exfalso; omega)
      | (go_returns; exact ⟨rfl, rfl⟩)
  · have h1 : (xs.length : Int) < x := by omega
    clear hx
    go_enter Try.func31, Try.ntmps31
    go_wp2_with fail
    all_goals first
      | (exfalso; omega)
      | (go_returns; exact ⟨rfl, rfl⟩)

/-- A new disk, of blocks that were not there. -/
def DNewR (xs : List UInt8) (k : Nat) (w : World) (e : Ending) (w' : World) : Prop :=
  ∃ c u, e = .returned (.pointer (some ⟨c, 0, none⟩)) ∧ Dsk w' w.heap.size c u xs k ∧ Below w.heap.size w w'

end Go.Proofs.Ytpmigpgkicacpaa
