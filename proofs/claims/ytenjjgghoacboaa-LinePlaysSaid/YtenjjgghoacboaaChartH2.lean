/-
  THE PROGRAM's history: what it tells of versions (at most a million).
-/
import Derived.Test.YtenjjgghoacboaaChartH
namespace Go.Proofs.Ytenjjgghoacboaa
open Go.RowKit Go.Shelf

attribute [local go_sem] Oper.semAt_some

theorem info_intH : (Try.prog.info? 3).map (fun i => (i.zero, i.size, i.bytes)) = some (some (.int .i64 0), 1, 8) := by kernel_rfl

def RepAt (W : World) (b : Nat) (c n : Int) (d : ByteArray) (v : Value) : Prop := W.heap[b]? = some (.cells #[.int .i64 c, .int .i64 n, .string d, v] 48 (0, 0))
theorem RepAt.cells {W : World} {b : Nat} {c n : Int} {d : ByteArray} {v : Value} (h : RepAt W b c n d v) :
    (W.cell? ⟨b, 0, none⟩ = some (.int .i64 c) ∧ W.cell? ⟨b, 1, none⟩ = some (.int .i64 n) ∧ W.cell? ⟨b, 2, none⟩ = some (.string d) ∧ W.cell? ⟨b, 3, none⟩ = some v) ∧
    (W.frozen? ⟨b, 0, none⟩ = false ∧ W.frozen? ⟨b, 1, none⟩ = false ∧ W.frozen? ⟨b, 2, none⟩ = false ∧ W.frozen? ⟨b, 3, none⟩ = false) := by
  have h' : W.heap[b]? = some (.cells #[.int .i64 c, .int .i64 n, .string d, v] 48 (0, 0)) := h
  refine ⟨⟨?_, ?_, ?_, ?_⟩, ⟨?_, ?_, ?_, ?_⟩⟩ <;> simp [World.cell?, World.frozen?, h']
theorem RepAt.lt {W : World} {b : Nat} {c n : Int} {d : ByteArray} {v : Value} (h : RepAt W b c n d v) : b < W.heap.size := lt_of_block h
theorem RepAt.kept {W W' : World} {row : Option Nat} {b : Nat} {c n : Int} {d : ByteArray} {v : Value} (h : RepAt W b c n d v) (hg : W.grownBy W' row) (hne : some b ≠ row) : RepAt W' b c n d v := (hg.block b h.lt hne).trans h
theorem RepAt.alloc {W : World} {b : Nat} {c n : Int} {d : ByteArray} {v : Value} (h : RepAt W b c n d v) (o : Obj) : RepAt (W.alloc o) b c n d v := h.kept (World.grownBy_alloc W o none) (by simp)
theorem RepAt.not_row {W : World} {b : Nat} {c n : Int} {d : ByteArray} {u : Value} (h : RepAt W b c n d u) {base k : Nat} {v : Value} {xs : List Value} (hr : W.ownsRow base 3 1 v k xs) : some b ≠ v.ownBlock := by
  rcases hr.2 with ⟨rfl, _⟩ | ⟨g, cap, cur, rfl, _, hgb, _⟩
  · simp [Value.ownBlock]
  · intro e'
    obtain rfl : b = g := by simpa [Value.ownBlock] using e'
    have := (show W.heap[b]? = _ from h).symm.trans hgb
    simp at this

/-- A version's number, of a tombstone 0 less it. -/
def sg (x : NumV) : Int := if x.v.gone = true then -((x.i : Int) + 1) else (x.i : Int) + 1
theorem come_signs (L : List VerV) (k : Nat) (hk : k ≤ 1000000) : (come L k).map sg = signs L k := by
  simp only [come, signs, List.map_map]
  refine List.map_congr_left fun j hj => ?_
  have hj := List.mem_range.1 hj
  have e : min j 999999 = j := by omega
  simp only [Function.comp, sg, numV, sign, e]

/-- Between two rounds: the result's block, the reply's block with its row. -/
def HI (n₀ R S : Nat) (n : Int) (pre : List NumV) (W : World) : Prop :=
  RepAt W R 0 0 ⟨#[]⟩ (.slice none 0 0) ∧ ∃ v, RepAt W S 1 n ⟨#[]⟩ v ∧ W.ownsRow n₀ 3 1 v pre.length (intCells (pre.map sg))

theorem own_row {n₀ k : Nat} {v : Value} {xs : List Value} {X Y : World} {row : Option Nat} (hr : X.ownsRow n₀ 3 1 v k xs) (hg : X.grownBy Y row) (hrow : ∀ r, row = some r → ∃ o : Obj, X.heap[r]? = some o ∧ o.isCells = false) : Y.ownsRow n₀ 3 1 v k xs := by
  refine hr.kept hg ?_
  rcases hr.2 with ⟨rfl, _⟩ | ⟨g, cap, cur, rfl, _, hgb, _⟩
  · exact .inl rfl
  · refine .inr fun e' => ?_
    obtain ⟨o, ho, hc⟩ := hrow g (by simpa [Value.ownBlock] using e'.symm)
    rw [hgb] at ho; cases ho; cases hc
theorem cells_row {X Y : World} {row : Option Nat} {b : Nat} {cs : Array Value} {e : TypeId} {fr : Nat × Nat} (h : X.heap[b]? = some (.cells cs e fr)) (hg : X.grownBy Y row) (hrow : ∀ r, row = some r → ∃ o : Obj, X.heap[r]? = some o ∧ o.isCells = false) : Y.heap[b]? = some (.cells cs e fr) :=
  (hg.block b (lt_of_block h) (fun e' => by obtain ⟨o, ho, hc⟩ := hrow b e'.symm; rw [h] at ho; cases ho; cases hc)).trans h

theorem hi_own (n₀ R S : Nat) (n : Int) : Own (HI n₀ R S n) := by
  rintro s X Y row ⟨h0, v, hv, hr⟩ hg hrow
  exact ⟨cells_row h0 hg hrow, v, cells_row hv hg hrow, own_row hr hg hrow⟩

theorem hi_alloc {n₀ R S : Nat} {n : Int} {pre : List NumV} {W : World} (h : HI n₀ R S n pre W) (o : Obj) : HI n₀ R S n pre (W.alloc o) := by
  obtain ⟨h0, v, hv, hr⟩ := h
  exact ⟨h0.alloc o, v, hv.alloc o, hr.alloc o⟩

/-- 'told.Versions = append(told.Versions, number)'. -/
theorem rep_appended {W w1 : World} {n₀ R S : Nat} {n : Int} {v v' : Value} {k m : Nat} {xs ys : List Value} {tmp : Obj} (h0 : RepAt W R 0 0 ⟨#[]⟩ (.slice none 0 0)) (hv : RepAt W S 1 n ⟨#[]⟩ v) (hne : R ≠ S) (hrow : W.ownsRow n₀ 3 1 v k xs) (hn₀ : n₀ ≤ W.heap.size) (hS : n₀ ≤ S)
    (hown' : w1.ownsRow n₀ 3 1 v' m ys) (hgrow : (W.alloc tmp).grownBy w1 v.ownBlock) :
    RepAt w1 S 1 n ⟨#[]⟩ v ∧ RepAt (w1.setCell ⟨S, 3, none⟩ v') R 0 0 ⟨#[]⟩ (.slice none 0 0) ∧ RepAt (w1.setCell ⟨S, 3, none⟩ v') S 1 n ⟨#[]⟩ v' ∧ (w1.setCell ⟨S, 3, none⟩ v').ownsRow n₀ 3 1 v' m ys ∧
      KeepsOthers W (w1.setCell ⟨S, 3, none⟩ v') ∧ Below n₀ W (w1.setCell ⟨S, 3, none⟩ v') := by
  have hv1 : RepAt w1 S 1 n ⟨#[]⟩ v := (hv.alloc tmp).kept hgrow (hv.not_row hrow)
  have h01 : RepAt w1 R 0 0 ⟨#[]⟩ (.slice none 0 0) := (h0.alloc tmp).kept hgrow (h0.not_row hrow)
  have hgs : w1.grownBy (w1.setCell ⟨S, 3, none⟩ v') (some S) := ⟨rfl, rfl, rfl, (KeepsWalks.setCell w1 _ v').size, fun k _ hk => Below.heap_setCell _ _ _ k (fun e => hk (by rw [e]))⟩
  refine ⟨hv1, h01.kept hgs (fun e => hne (by cases e; rfl)), ?_, hown'.kept hgs (.inr (hv1.not_row hown').symm), ?_, ?_⟩
  · show (w1.setCell _ _).heap[S]? = _
    rw [heap_setCell_same _ _ _ _ _ _ hv1]
    rfl
  · refine ((KeepsOthers.alloc W tmp).trans (KeepsOthers.of_grownBy hgrow fun j o ej hj => ?_)).trans (KeepsOthers.setCell _ _ _)
    rcases (hrow.alloc tmp).2 with ⟨rfl, _⟩ | ⟨g, cap, cur, rfl, _, hgb, _⟩
    · simp [Value.ownBlock] at ej
    · obtain rfl : g = j := by simpa [Value.ownBlock] using ej
      rw [hgb] at hj; cases hj; rfl
  · refine (((Below.refl n₀ W).alloc hn₀ tmp).grown hgrow (by simp; omega) fun j ej => ?_).setCell (p := ⟨S, 3, none⟩) hS v'
    rcases hrow.2 with ⟨rfl, _⟩ | ⟨g, cap, cur, rfl, hb, _, _⟩
    · simp [Value.ownBlock] at ej
    · obtain rfl : g = j := by simpa [Value.ownBlock] using ej
      exact hb

/-- A reply stored whole into a reply's block. -/
def stored (W : World) (R : Nat) (c n : Int) (d : ByteArray) (v : Value) : World := (((W.setCell ⟨R, 0, none⟩ (.int .i64 c)).setCell ⟨R, 1, none⟩ (.int .i64 n)).setCell ⟨R, 2, none⟩ (.string d)).setCell ⟨R, 3, none⟩ v
theorem rep_stored {W : World} {R : Nat} {c n c' n' : Int} {d d' : ByteArray} {u : Value} (h : RepAt W R c n d u) (v : Value) : RepAt (stored W R c' n' d' v) R c' n' d' v := by
  unfold stored
  have h0 : (W.setCell ⟨R, 0, none⟩ (.int .i64 c')).heap[R]? = some (.cells #[.int .i64 c', .int .i64 n, .string d, u] 48 (0, 0)) := by rw [heap_setCell_same _ _ _ _ _ _ h]; rfl
  have h1 : ((W.setCell ⟨R, 0, none⟩ (.int .i64 c')).setCell ⟨R, 1, none⟩ (.int .i64 n')).heap[R]? = some (.cells #[.int .i64 c', .int .i64 n', .string d, u] 48 (0, 0)) := by rw [heap_setCell_same _ _ _ _ _ _ h0]; rfl
  have h2 : (((W.setCell ⟨R, 0, none⟩ (.int .i64 c')).setCell ⟨R, 1, none⟩ (.int .i64 n')).setCell ⟨R, 2, none⟩ (.string d')).heap[R]? = some (.cells #[.int .i64 c', .int .i64 n', .string d', u] 48 (0, 0)) := by rw [heap_setCell_same _ _ _ _ _ _ h1]; rfl
  show (World.heap (World.setCell _ _ _))[R]? = _
  rw [heap_setCell_same _ _ _ _ _ _ h2]
  rfl
theorem set_grown (W : World) (R o : Nat) (u : Value) : W.grownBy (W.setCell ⟨R, o, none⟩ u) (some R) := ⟨rfl, rfl, rfl, (KeepsWalks.setCell W _ u).size, fun k _ hk => Below.heap_setCell _ _ _ k (fun e => hk (by rw [e]))⟩
theorem stored_row {W : World} {R : Nat} {c n : Int} {d : ByteArray} {u : Value} {base k : Nat} {v : Value} {xs : List Value} (hr : W.ownsRow base 3 1 v k xs) (hne : some R ≠ v.ownBlock) : (stored W R c n d u).ownsRow base 3 1 v k xs :=
  (((hr.kept (set_grown _ _ _ _) (.inr hne.symm)).kept (set_grown _ _ _ _) (.inr hne.symm)).kept (set_grown _ _ _ _) (.inr hne.symm)).kept (set_grown _ _ _ _) (.inr hne.symm)
theorem stored_keeps (W : World) (R : Nat) (c n : Int) (d : ByteArray) (u : Value) : KeepsOthers W (stored W R c n d u) := (((KeepsOthers.setCell _ _ _).trans (KeepsOthers.setCell _ _ _)).trans (KeepsOthers.setCell _ _ _)).trans (KeepsOthers.setCell _ _ _)
theorem stored_below {B : Nat} {w W : World} {R : Nat} (h : Below B w W) (hR : B ≤ R) (c n : Int) (d : ByteArray) (u : Value) : Below B w (stored W R c n d u) :=
  (((h.setCell (p := ⟨R, 0, none⟩) hR _).setCell (p := ⟨R, 1, none⟩) hR _).setCell (p := ⟨R, 2, none⟩) hR _).setCell (p := ⟨R, 3, none⟩) hR _

set_option maxRecDepth 100000 in
set_option maxHeartbeats 2000000 in
theorem history_in (F : Fence) (n : Nat) (h3 : F.fn 123) (h6 : F.fn 128) (h8 : F.fn 130) (hro : F.round = none) (hn : 3 ≤ n) (b off m cap : Nat) (L : List VerV) (hm : L.length = m) (hpos : 0 < m) (hreach : m ≤ 1000000) (w : World) (hb : b < w.heap.size)
    (hI : ∀ j, j < L.length → w.cell? ⟨b, off + j * 2, none⟩ = some (.bool (at' L j).gone) ∧ w.cell? ⟨b, off + j * 2 + 1, none⟩ = some (.string (at' L j).data)) :
    CallsIn F n Try.prog 123 #[.slice (some ⟨b, off, none⟩) m cap] w fun e W' => ∃ v, e = .returned (.agg #[.int .i64 1, .int .i64 m, .string ⟨#[]⟩, v]) ∧ W'.ownsRow w.heap.size 3 1 v m (intCells (signs L m)) ∧ Below w.heap.size w W' := by
  have h1 : 1 ≤ n := by omega
  obtain ⟨i0, hi, hz0, hz1, hz2⟩ := info_parts info_intH
  have HI0 := Lib.hid hI
  have HM := Lib.hid hm
  clear hI hm
  have e0 : ((m : Int) == 0) = false := by rw [beq_eq_false_iff_ne]; omega
  refine callsIn_of_wp_marks Try.func123 rfl h3 ?_ hro
  simp only [Try.ntmps123, List.size_toArray, List.length_cons, List.length_nil, Nat.reduceAdd, Nat.reduceSub, Array.replicate_succ, Array.replicate_zero, List.push_toArray, List.append_toArray, List.nil_append, List.cons_append]
  gi_wp2_with (gi_at_call 128; refine (numbered_in F (n - 1) h6 hro _ _ _ _).mono ?_; rintro e w' ⟨rfl, rfl⟩)
  obtain ⟨w3, hw3⟩ : ∃ w3, w3 = ((w.alloc (.cells #[.int .i64 0, .int .i64 0, .string ⟨#[]⟩, .slice none 0 0] 48)).alloc (.cells #[.int .i64 1, .int .i64 m, .string ⟨#[]⟩, .slice none 0 0] 48)).alloc (.cells #[.slice (some ⟨b, off, none⟩) m cap] 112) := ⟨_, rfl⟩
  have hs3 : w3.heap.size = w.heap.size + 3 := by rw [hw3]; simp
  have hB3 : Below w.heap.size w w3 := by rw [hw3]; exact (((Below.refl _ w).alloc (Nat.le_refl _) _).alloc (by simp) _).alloc (by simp; omega) _
  have hR3 : RepAt w3 w.heap.size 0 0 ⟨#[]⟩ (.slice none 0 0) := by
    rw [hw3]
    exact RepAt.alloc (RepAt.alloc (heap_alloc_new w _) _) _
  have hS3 : RepAt w3 (w.heap.size + 1) 1 m ⟨#[]⟩ (.slice none 0 0) := by
    rw [hw3]
    refine RepAt.alloc ?_ _
    have := heap_alloc_new (w.alloc (.cells #[.int .i64 0, .int .i64 0, .string ⟨#[]⟩, .slice none 0 0] 48)) (.cells #[.int .i64 1, .int .i64 m, .string ⟨#[]⟩, .slice none 0 0] 48)
    rwa [World.size_alloc] at this
  have hN3 : w3.cell? ⟨w.heap.size + 2, 0, none⟩ = some (.slice (some ⟨b, off, none⟩) L.length cap) := by
    rw [hw3, HM.out]
    have := heap_alloc_new ((w.alloc (.cells #[.int .i64 0, .int .i64 0, .string ⟨#[]⟩, .slice none 0 0] 48)).alloc (.cells #[.int .i64 1, .int .i64 m, .string ⟨#[]⟩, .slice none 0 0] 48)) (.cells #[.slice (some ⟨b, off, none⟩) m cap] 112)
    rw [World.size_alloc, World.size_alloc] at this
    exact cell_of_one this
  rw [← hw3]
  clear hw3
  refine wpIn_rangeFunc_ownH hro h1 (gf := 130) (lb := #[.pointer (some ⟨w.heap.size + 2, 0, none⟩)]) rfl h8 (enters_of Try.func130 (by kernel_rfl) rfl)
    (numbered_stops F (n - 1) h8 hro (by omega) (w.heap.size + 2) w.heap.size b off cap L (by have := HM.out; omega) w3 (by omega) (by omega) hb hN3
      (fun j hj => ⟨(hB3.cell (p := ⟨b, off + j * 2, none⟩) hb).trans (HI0.out j hj).1, (hB3.cell (p := ⟨b, off + j * 2 + 1, none⟩) hb).trans (HI0.out j hj).2⟩))
    belowK_t (belowK_b (by omega)) (Below.refl _ _) (fun _ => rfl)
    (fun pre W => HI w.heap.size w.heap.size (w.heap.size + 1) m pre W ∧ Below w.heap.size w W)
    (fun _ _ _ => False)
    (OwnFrom.and (Own.from (hi_own _ _ _ _) _) (ownFrom_below (Nat.le_refl _) (by omega)))
    (fun _ _ _ _ _ hs _ _ => hs)
    ⟨⟨hR3, _, hS3, World.ownsRow_nil _ _ _ _⟩, hB3⟩
    (fun x a' W => ∃ Bx, W.heap[Bx]? = some (.cells #[.bool x.v.gone, .string x.v.data] 121 (0, 0)) ∧ a' = { tmps := #[.slice (some ⟨b, off, none⟩) m cap, undef, .pointer (some ⟨w.heap.size, 0, none⟩), .pointer (some ⟨w.heap.size + 1, 0, none⟩), .int .i64 ((x.i : Int) + 1), .pointer (some ⟨Bx, 0, none⟩),
        .slice (some ⟨b, off, none⟩) m cap, .int .i64 m, .bool false, undef, .slice (some ⟨b, off, none⟩) m cap, .int .i64 m, .agg #[.int .i64 1, .int .i64 m, .string ⟨#[]⟩, .slice none 0 0], .slice (some ⟨b, off, none⟩) m cap,
        .func (.func 130) #[] #[.pointer (some ⟨w.heap.size + 2, 0, none⟩)], .int .i64 ((x.i : Int) + 1), .agg #[.bool x.v.gone, .string x.v.data], undef, undef, undef, undef, undef, undef, undef, undef, undef, undef, undef], defers := [] })
    (fun x a' => fun s X Y row ⟨Bx, hbx, ha⟩ hg hr => ⟨Bx, cells_row hbx hg (fun r e => (hr r e).2), ha⟩) ?assign ?body ?done ?stop
  case assign =>
    rintro l pre x W K ⟨hi, hB⟩ hK
    simp only [encV]
    gi_wp2
    exact hK _ _ ((KeepsOthers.alloc _ _).from _) ((Below.refl _ W).alloc hB.size _) ⟨hi_alloc hi _, hB.alloc hB.size _⟩ ⟨W.heap.size, heap_alloc_new W _, rfl⟩
  case body =>
    rintro l pre ⟨i, ⟨g, d⟩, hi6⟩ a' W hl ⟨r, hr⟩ ⟨⟨h0, v, hv, hrow⟩, hB⟩ ⟨Bx, bX, rfl⟩ hlt
    have hc := hv.cells.1.2.2.2
    have cg : W.cell? ⟨Bx, 0, none⟩ = some (.bool g) := cell_of_row _ _ 0 _ _ _ bX
    have hl6 : pre.length < 1000000 := by have := HM.out; omega
    have j0 : (0 : Int) ≤ (i : Int) := by omega
    have j1 : (i : Int) < 1000000 := by omega
    clear bX hlt
    dsimp only
    cases g
    case false =>
      gi_wp2_with (gi_at_builtin; refine wpListIn_append_own _ rfl _ _ 41 rfl w.heap.size 3 i0 (.int .i64 0) 1 8 Try.underlying41 hi hz0 hz1 hz2 rfl (by decide) _ _ _ rfl (hrow.alloc _) ⟨W.heap.size, 0, none⟩ 1 1 [.int .i64 ((i : Int) + 1)] rfl rfl (cell_one_new _ _ _) (by simp [Value.oneCell']) (by unfold maxLen; omega) (by omega) (by have := hB.size; simp; omega) ?_; intro v' w1 hown' hgrow _; obtain ⟨g', cap', rfl⟩ := ownsRow_succ hown'; obtain ⟨k1, k2, k3, k4, k5, k6⟩ := rep_appended h0 hv (by omega) hrow hB.size (by omega) hown' hgrow; have hc1 := k1.cells.1.2.2.2; have hf1 := k1.cells.2.2.2.2)
      exact ⟨k5.from _, k6, ⟨⟨k2, _, k3, by simpa [sg, intCells] using k4⟩, hB.trans k6⟩⟩
    case true =>
      gi_wp2_with (gi_at_builtin; refine wpListIn_append_own _ rfl _ _ 41 rfl w.heap.size 3 i0 (.int .i64 0) 1 8 Try.underlying41 hi hz0 hz1 hz2 rfl (by decide) _ _ _ rfl (hrow.alloc _) ⟨W.heap.size, 0, none⟩ 1 1 [.int .i64 (-((i : Int) + 1))] rfl rfl (cell_one_new _ _ _) (by simp [Value.oneCell']) (by unfold maxLen; omega) (by omega) (by have := hB.size; simp; omega) ?_; intro v' w1 hown' hgrow _; obtain ⟨g', cap', rfl⟩ := ownsRow_succ hown'; obtain ⟨k1, k2, k3, k4, k5, k6⟩ := rep_appended h0 hv (by omega) hrow hB.size (by omega) hown' hgrow; have hc1 := k1.cells.1.2.2.2; have hf1 := k1.cells.2.2.2.2)
      exact ⟨k5.from _, k6, ⟨⟨k2, _, k3, by simpa [sg, intCells] using k4⟩, hB.trans k6⟩⟩
  case done =>
    rintro D ys W hD rfl ⟨⟨h0, v, hv, hrow⟩, hB⟩ hK
    obtain ⟨⟨c0, c1, c2, c3⟩, ⟨f0, f1, f2, f3⟩⟩ := hv.cells
    obtain ⟨⟨d0, d1, d2, d3⟩, ⟨z0, z1, z2, z3⟩⟩ := h0.cells
    rw [come_length, come_signs _ _ (by have := HM.out; omega), HM.out] at hrow
    have hne := h0.not_row hrow
    obtain ⟨a', c', rfl⟩ := own_shape hrow
    gi_wp2
    have hK4 := (stored_keeps W w.heap.size 1 m ⟨#[]⟩ (.slice a' m c')).same D _ hK rfl
    refine ⟨by simp, .inl ⟨_, _, rfl, run_takeDeferred hK4, ?_⟩⟩
    have hr5 : RepAt ((stored W w.heap.size 1 m ⟨#[]⟩ (.slice a' m c')).putObj D (.deferred none)) w.heap.size 1 m ⟨#[]⟩ (.slice a' m c') := cells_row (rep_stored h0 _) (grownBy_putObj' _ D (.deferred none)) (fun r e => by cases e; exact ⟨_, hK4, rfl⟩)
    have ho5 : ((stored W w.heap.size 1 m ⟨#[]⟩ (.slice a' m c')).putObj D (.deferred none)).ownsRow w.heap.size 3 1 (.slice a' m c') m (intCells (signs L m)) := ownsRow_putObj (stored_row hrow hne) _ hK4 rfl
    have hb5 : Below w.heap.size w ((stored W w.heap.size 1 m ⟨#[]⟩ (.slice a' m c')).putObj D (.deferred none)) := (stored_below hB (Nat.le_refl _) _ _ _ _).trans (belowK_b (w := w) (Nat.le_refl _) _ D _ _ (by omega) hK4 rfl rfl)
    obtain ⟨⟨e0, e1, e2, e3⟩, _⟩ := hr5.cells
    refine ⟨.agg #[.int .i64 1, .int .i64 m, .string ⟨#[]⟩, .slice a' m c'], ?_, _, rfl, ho5, hb5⟩
    unfold stored at e0 e1 e2 e3
    simp [results, Try.results123, go_sem, e0, e1, e2, e3]
  case stop =>
    rintro D c pre W _ _ h _
    exact h.elim

set_option maxRecDepth 100000 in
set_option maxHeartbeats 1000000 in
theorem history_none (ao : Option Addr) (cap : Nat) (w : World) :
    Calls Try.prog 123 #[.slice ao 0 cap] w fun e w' => e = .returned (.agg #[.int .i64 2, .int .i64 0, .string ⟨#[]⟩, .slice none 0 0]) ∧ Below w.heap.size w w' := by
  go_enter Try.func123, Try.ntmps123
  go_wp2
  go_returns
  exact ⟨rfl, by go_grown⟩

theorem history_some (b off m cap : Nat) (L : List VerV) (hm : L.length = m) (hpos : 0 < m) (hreach : m ≤ 1000000) (w : World) (hb : b < w.heap.size)
    (hI : ∀ j, j < L.length → w.cell? ⟨b, off + j * 2, none⟩ = some (.bool (at' L j).gone) ∧ w.cell? ⟨b, off + j * 2 + 1, none⟩ = some (.string (at' L j).data)) :
    Calls Try.prog 123 #[.slice (some ⟨b, off, none⟩) m cap] w fun e W' => ∃ v, e = .returned (.agg #[.int .i64 1, .int .i64 m, .string ⟨#[]⟩, v]) ∧ W'.ownsRow w.heap.size 3 1 v m (intCells (signs L m)) ∧ Below w.heap.size w W' :=
  callsIn_wide.1 (history_in Fence.wide 3 trivial trivial trivial rfl (Nat.le_refl _) b off m cap L hm hpos hreach w hb hI)

/-- What a call tells as a reply. -/
def Tells (l : List Int) (c r : Int) (d : ByteArray) (w : World) (e : Ending) (w' : World) : Prop :=
  ∃ ao cap, e = .returned (.agg #[.int .i64 c, .int .i64 r, .string d, .slice ao l.length cap]) ∧ Ints w' w'.heap.size (.slice ao l.length cap) l ∧ (∀ a, ao = some a → w.heap.size ≤ a.block) ∧ Below w.heap.size w w'

theorem own_lo {w : World} {base : Nat} {e : TypeId} {size : Nat} {ao : Option Addr} {n c : Nat} {xs : List Value} (h : w.ownsRow base e size (.slice ao n c) n xs) : ∀ a, ao = some a → base ≤ a.block := by
  intro a ha
  subst ha
  rcases h.2 with ⟨h0, _⟩ | ⟨g, cap, cur, h0, hg, _⟩
  · simp at h0
  · simp only [Value.slice.injEq, Option.some.injEq] at h0
    rw [h0.1]
    exact hg

/-- What history tells. -/
theorem history_r (v : Value) (L : List VerV) (B : Nat) (c r : Int) (d : ByteArray) (l : List Int) (HR : Hid (histV L = ⟨c, r, d, l⟩)) (w : World) (hV : Vers w B v L) (hB : B ≤ w.heap.size) (hl : L.length ≤ 1000000) :
    Calls Try.prog 123 #[v] w (Tells l c r d w) := by
  have h := HR.out
  unfold histV at h
  obtain ⟨ao, cap, rfl⟩ := hV.shape
  by_cases h0 : L.length = 0
  · rw [if_pos h0] at h
    obtain ⟨rfl, rfl, rfl, rfl⟩ : 2 = c ∧ 0 = r ∧ (⟨#[]⟩ : ByteArray) = d ∧ [] = l := by simpa using h
    rw [h0]
    exact (history_none ao cap w).mono fun e w' ⟨he, hb⟩ => ⟨none, 0, he, Ints.none _ _, fun a h => (by cases h), hb⟩
  · rw [if_neg h0] at h
    obtain ⟨rfl, rfl, rfl, rfl⟩ : 1 = c ∧ (L.length : Int) = r ∧ (⟨#[]⟩ : ByteArray) = d ∧ signs L L.length = l := by simpa using h
    obtain ⟨b, off, rfl, hb, hc⟩ := hV.at (by omega)
    refine (history_some b off L.length cap L rfl (by omega) hl w (by omega) hc).mono ?_
    rintro e w' ⟨v, rfl, hown, hbel⟩
    obtain ⟨a', c', rfl⟩ := own_shape hown
    unfold Tells
    rw [signs_length]
    exact ⟨a', c', rfl, ints_own hown (Nat.le_refl _), own_lo hown, hbel⟩
end Go.Proofs.Ytenjjgghoacboaa
