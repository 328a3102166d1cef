/-
  THE PROGRAM's Without. Of chains of at most a hundred nodes, without at most a hundred.
-/
import Derived.Test.YtnliadnpoledmaaChainF
import Derived.Test.YtnliadnpoledmaaBookArgs
import Derived.Maps.OwnIn
import Derived.Maps.Views
namespace Go.Proofs.Ytnliadnpoledmaa
open Go.RowKit Go.Shelf Go.Maps

attribute [local go_sem] Oper.semAt_some

/-- The set of some. -/
def outM (l : List Int) : DataW Unit := setOf (.agg []) (l.map fun x => Lit.int .i64 x)
theorem outM_nil : outM [] = .map [] := rfl
theorem outM_snoc (l : List Int) (x : Int) : outM (l ++ [x]) = (outM l).put (.int .i64 x) (.agg []) := by
  unfold outM
  rw [List.map_append, List.map_singleton, setOf_snoc]
theorem outM_has (l : List Int) (y : Int) : Maps.has (outM l) (.int .i64 y) = decide (y ∈ l) := by
  unfold outM
  rw [has_setOf]
  · rw [Bool.eq_iff_iff]
    simp [Lit.sameKey]
  · intro x hx
    obtain ⟨z, _, rfl⟩ := List.mem_map.1 hx
    trivial
theorem wf_lit {x : Int} (h : Wf x) : (Lit.int .i64 x).wf = true := by
  obtain ⟨h1, h2⟩ := h
  simp [Lit.wf, IntKind.min, IntKind.max, IntKind.signed, IntKind.bits]
  omega
theorem ownsMap_eq {w w' : World} {k : TypeId} {R : Value → Option (DataW Unit × List MemPlace)} {b n : Nat} {D : DataW Unit} (h : w.ownsMap Try.prog k R b n D) (he : w'.heap[b]? = w.heap[b]?) : w'.ownsMap Try.prog k R b n D := by
  obtain ⟨es, clock, hb, r⟩ := h
  exact ⟨es, clock, he.trans hb, r⟩
theorem zero_unit (w : World) : (zeroValue 48).run Try.prog w = .ok (.agg #[]) w := by kernel_rfl

instance (x : Int) : Decidable (Wf x) := by unfold Wf; infer_instance
/-- Who stands where, his number an int's. -/
structure SpotW where
  s : SpotV
  h : Wf s.nd
def mkW (L : List Int) (k : Nat) : SpotW := if h : Wf (spotOf L k).nd then ⟨spotOf L k, h⟩ else ⟨⟨0, 0, 0⟩, ⟨by decide, by decide⟩⟩
def encW (x : SpotW) : Array Value := encSp x.s
theorem mkW_enc {L : List Int} (hL : ∀ x ∈ L, Wf x) (k : Nat) (hk : k < L.length) : encW (mkW L k) = encSp (spotOf L k) := by
  unfold mkW encW
  rw [dif_pos (show Wf (spotOf L k).nd from hL _ (chGet_mem hk))]
theorem mkW_nodes {L : List Int} (hL : ∀ x ∈ L, Wf x) : ∀ k, k ≤ L.length → (mks (mkW L) k).map (·.s.nd) = L.take k
  | 0, _ => by simp [mks]
  | k + 1, hk => by
    rw [mks_succ, List.map_append, mkW_nodes hL k (by omega), take_snoc L k hk]
    unfold mkW
    rw [List.map_singleton, dif_pos (show Wf (spotOf L k).nd from hL _ (chGet_mem hk))]
    rfl
theorem spotsW_stops (n Bs n₀ B : Nat) (ep : Int) (v0 : Value) (w0 : World) (L : List Int) (hlim : L.length ≤ 1000000) (hL : ∀ x ∈ L, Wf x) (hI : Ints w0 B v0 L) (hBn : B ≤ n₀) (w : World) (hBw : Below B w0 w) (hn₀ : n₀ ≤ w.heap.size) (hbox : ChB w Bs ep v0) :
    SeqStopsK Fence.wide n Try.prog 40 #[.pointer (some ⟨Bs, 0, none⟩)] encW (KeepB n₀ Bs) (fun ys => ys = mks (mkW L) L.length) (fun pre => ∃ k, k ≤ L.length ∧ pre = mks (mkW L) k) L.length w := fun l J Jx W hW hJa _ hY h0 =>
  spots1_g (mkW L) encW n l Bs n₀ B ep v0 w0 L hlim hI hBn (mkW_enc hL) J Jx hY W (Nat.le_trans hn₀ hW.size) hJa (hBw.trans (hW.mono (by omega))) (hbox.keep hW hbox.lt) h0

/-- Who is left of those that came. -/
def leftW (l : List Int) (pre : List SpotW) : List Int := leftL (pre.map (·.s.nd)) l
theorem leftW_in {l : List Int} {pre : List SpotW} {y : SpotW} (h : y.s.nd ∈ l) : leftW l (pre ++ [y]) = leftW l pre := by
  unfold leftW
  rw [List.map_append, List.map_singleton, leftL_snoc_in h]
theorem leftW_out {l : List Int} {pre : List SpotW} {y : SpotW} (h : y.s.nd ∉ l) : leftW l (pre ++ [y]) = leftW l pre ++ [y.s.nd] := by
  unfold leftW
  rw [List.map_append, List.map_singleton, leftL_snoc_out h]
theorem leftW_len (l : List Int) (pre : List SpotW) : (leftW l pre).length ≤ pre.length := by
  unfold leftW
  have := leftL_len (pre.map (·.s.nd)) l
  simpa using this

theorem row_own {n₀ k : Nat} {v : Value} {xs : List Value} {X Y : World} {row : Option Nat} (hr : X.ownsRow n₀ 3 1 v k xs) (hg : X.grownBy Y row) (hrow : ∀ r, row = some r → ∃ o : Obj, X.heap[r]? = some o ∧ o.isCells = false) : Y.ownsRow n₀ 3 1 v k xs := by
  refine hr.kept hg ?_
  rcases hr.2 with ⟨rfl, _⟩ | ⟨g, cap, cur, rfl, _, hgb, _⟩
  · exact .inl rfl
  · refine .inr fun e' => ?_
    obtain ⟨o, ho, hc⟩ := hrow g (by simpa [Value.ownBlock] using e'.symm)
    rw [hgb] at ho; cases ho; cases hc
theorem app_other {W w1 : World} {n₀ B b k : Nat} {v v' : Value} {xs : List Value} {tmp o : Obj} (ho : W.heap[b]? = some o) (hT : ∀ cs fr, o ≠ .cells cs 3 fr) (hbB : b ≠ B) (hrow : W.ownsRow n₀ 3 1 v k xs) (hgrow : (W.alloc tmp).grownBy w1 v.ownBlock) :
    (w1.setCell ⟨B, 0, none⟩ v').heap[b]? = W.heap[b]? := by
  have hlt : b < W.heap.size := (Array.getElem?_eq_some_iff.1 ho).1
  rw [Below.heap_setCell _ _ _ _ (by simpa using hbB)]
  refine (hgrow.block b (by simp; omega) fun e => ?_).trans (Below.heap_alloc W tmp b hlt)
  rcases hrow.2 with ⟨rfl, _⟩ | ⟨g, cap, cur, rfl, _, hgb, _⟩
  · simp [Value.ownBlock] at e
  · obtain rfl : b = g := by simpa [Value.ownBlock] using e
    rw [ho] at hgb
    cases hgb
    exact hT _ _ rfl

set_option maxRecDepth 100000 in
set_option maxHeartbeats 8000000 in
theorem chwithout_in (fu B : Nat) (hfu : 3 ≤ fu) (ep : Int) (va : Value) (A : List Int) (vl : Value) (l : List Int) (w : World) (hIa : Ints w B va A) (hIl : Ints w B vl l) (hB : B ≤ w.heap.size) (hA : A.length ≤ 100) (hl : l.length ≤ 100) (hAw : ∀ x ∈ A, Wf x) (hlw : ∀ x ∈ l, Wf x) (he : wrap64 (ep + 1) = ep + 1) {ep' : Int} {er : Int}
    (hE : (ChainV.may ⟨ep + 1, leftL A l⟩ ∧ ep' = ep + 1 ∧ er = 0) ∨ (¬ ChainV.may ⟨ep + 1, leftL A l⟩ ∧ ep' = 0 ∧ er = 1)) :
    CallsIn Fence.wide fu Try.prog 12 #[.agg #[.int .i64 ep, va], vl] w fun e w' => ∃ a n c, e = .returned (.tuple #[.agg #[.int .i64 ep', .slice a n c], .int .i64 er]) ∧ (er = 0 → n = (leftL A l).length ∧ w'.ownsRow w.heap.size 3 1 (.slice a n c) n (intCells (leftL A l))) ∧ (er = 1 → a = none ∧ n = 0 ∧ c = 0) ∧ Below w.heap.size w w' := by
  have hro : Fence.wide.round = none := rfl
  have h1 : 1 ≤ fu := by omega
  obtain ⟨i0, hi, hz0, hz1, hz2⟩ := info_parts info_int12
  obtain ⟨aa, ca, rfl⟩ : ∃ a c, va = .slice a A.length c := by obtain ⟨a, c, h, _⟩ := hIa; exact ⟨a, c, h⟩
  obtain ⟨al, cl, rfl⟩ : ∃ a c, vl = .slice a l.length c := by obtain ⟨a, c, h, _⟩ := hIl; exact ⟨a, c, h⟩
  obtain ⟨m, hm⟩ : ∃ m, m = l.length := ⟨_, rfl⟩
  rw [← hm] at hIl hl ⊢
  have HA := Lib.hid hIa
  have HL := Lib.hid hIl
  have HM := Lib.hid hm
  have HLW := Lib.hid hlw
  have HAW := Lib.hid hAw
  have HE := Lib.hid hE
  clear hIa hIl hm hlw hAw hE
  have hmm := @run_makeMap Try.prog
  refine callsIn_of_wp_marks Try.func12 rfl trivial ?_ hro
  simp only [Try.ntmps12, List.size_toArray, List.length_cons, List.length_nil, Nat.reduceAdd, Nat.reduceSub, Array.replicate_succ, Array.replicate_zero, List.push_toArray, List.append_toArray, List.nil_append, List.cons_append]
  gi_wp2_with fail
  obtain ⟨u0, hu0⟩ : ∃ u0, u0 = (((w.alloc (.cells #[.int .i64 ep, .slice aa A.length ca] 25)).alloc (.cells #[.int .i64 0, .slice none 0 0] 25)).alloc (.map #[] 0)).alloc (.cells #[.map (some (w.heap.size + 2))] 47) := ⟨_, rfl⟩
  have hs0 : u0.heap.size = w.heap.size + 4 := by rw [hu0]; simp
  have U0 : Below w.heap.size w u0 := by rw [hu0]; exact ((((Below.refl _ w).alloc (Nat.le_refl _) _).alloc (by simp) _).alloc (by simp; omega) _).alloc (by simp; omega) _
  have a0 : ChT u0 w.heap.size ep (.slice aa A.length ca) := by rw [hu0]; exact (ChT.fresh w _ _).keep ((((Below.refl _ _).alloc (Nat.le_refl _) _).alloc (by simp) _).alloc (by simp) _) (by simp)
  have r0 : ChT u0 (w.heap.size + 1) 0 (.slice none 0 0) := by
    rw [hu0]
    have := ChT.fresh (w.alloc (.cells #[.int .i64 ep, .slice aa A.length ca] 25)) 0 (.slice none 0 0)
    rw [World.size_alloc] at this
    exact this.keep (((Below.refl _ _).alloc (Nat.le_refl _) _).alloc (by simp) _) (by simp)
  have m0 : u0.ownsMap Try.prog 3 (unitElem (H := Unit)) (w.heap.size + 2) 0 (outM []) := by
    rw [hu0]
    have := World.ownsMap_made (H := Unit) ((w.alloc (.cells #[.int .i64 ep, .slice aa A.length ca] 25)).alloc (.cells #[.int .i64 0, .slice none 0 0] 25)) Try.prog 3 unitElem
    rw [World.size_alloc, World.size_alloc] at this
    exact this.alloc _
  have b0 : u0.heap[w.heap.size + 3]? = some (.cells #[.map (some (w.heap.size + 2))] 47 (0, 0)) := by
    rw [hu0]
    have := heap_alloc_new (((w.alloc (.cells #[.int .i64 ep, .slice aa A.length ca] 25)).alloc (.cells #[.int .i64 0, .slice none 0 0] 25)).alloc (.map #[] 0)) (.cells #[.map (some (w.heap.size + 2))] 47)
    rw [World.size_alloc, World.size_alloc, World.size_alloc] at this
    exact this
  rw [← hu0]
  have HU := Lib.hid U0
  have HA0 := Lib.hid a0
  have HR0 := Lib.hid r0
  have HB0 := Lib.hid b0
  have HS0 := Lib.hid hs0
  clear hu0 U0 a0 r0 b0 hs0 hmm
  gi_loopw [16] (fun s16 wr => ∃ k : Nat, k ≤ m ∧ s16 = .int .i64 k ∧ Hid (wr.ownsMap Try.prog 3 (unitElem (H := Unit)) (w.heap.size + 2) k (outM (l.take k)) ∧ Only (· = w.heap.size + 2) u0 wr)) (fun s16 _ => m - (intOf s16).toNat)
  case atStart => exact ⟨0, Nat.zero_le _, rfl, by simpa using m0, .refl _ _⟩
  case round =>
    obtain ⟨k, hk, rfl, HR⟩ := hrel
    have hsz := HR.out.2.size
    have hs0 := HS0.out
    have hbx : wr.heap[w.heap.size + 3]? = some (.cells #[.map (some (w.heap.size + 2))] 47 (0, 0)) := (HR.out.2.block _ (by omega) (by omega)).trans HB0.out
    have cb : wr.cell? ⟨w.heap.size + 3, 0, none⟩ = some (.map (some (w.heap.size + 2))) := cell_of_one hbx
    by_cases hlt : k < m
    · obtain ⟨b, off, rfl, hbB, hc⟩ := (ints_cell HL.out).2 k hlt
      have hcell : wr.cell? ⟨b, off + k, none⟩ = some (.int .i64 (l.getD k 0)) := (HR.out.2.cell (p := ⟨b, off + k, none⟩) (show b < u0.heap.size by omega) (show ¬ b = w.heap.size + 2 by omega)).trans ((HU.out.cell (p := ⟨b, off + k, none⟩) (show b < w.heap.size by omega)).trans hc)
      have hwf : Wf (l.getD k 0) := HLW.out _ (chGet_mem (by have := HM.out; omega))
      obtain ⟨x, hx⟩ : ∃ x, x = l.getD k 0 := ⟨_, rfl⟩
      rw [← hx] at hcell hwf
      have HX := Lib.hid hx
      have hkey : keyOf Try.prog 3 (.int .i64 x) = some (.int .i64 x) := keyOf_int_mk Try.underlying3 (wf_lit hwf)
      have hown := HR.out.1
      clear hc hx hwf hbx
      gi_wp2_with (gi_at_mapUpdate; refine wpListIn_mapUpdate_own _ rfl _ _ _ 47 rfl 3 48 (int_keyed Try.underlying3) Try.underlying47 _ (w.heap.size + 2) k _ rfl hown (by unfold maxLen; omega) _ _ _ rfl rfl hkey _ [] unitElem_mk ?_; intro w1 hown1 hgrow1)
      go_roundw
      case rel =>
        refine ⟨k + 1, by omega, by go_num, ?_, HR.out.2.trans ⟨hgrow1.os, hgrow1.tape, hgrow1.output, hgrow1.size, fun j hj hne => hgrow1.block j hj (fun e => hne (by cases e; rfl))⟩⟩
        rw [take_snoc l k (by have := HM.out; omega), outM_snoc, ← HX.out]
        exact hown1
      case measure => simp [intOf]; omega
    · obtain rfl : k = m := by omega
      have aw : ChT wr w.heap.size ep (.slice aa A.length ca) := (HR.out.2.block _ (by omega) (by omega)).trans HA0.out
      have rw' : ChT wr (w.heap.size + 1) 0 (.slice none 0 0) := (HR.out.2.block _ (by omega) (by omega)).trans HR0.out
      obtain ⟨d0, d1, _, _⟩ := (aw.keep ((Below.refl _ wr).alloc (Nat.le_refl _) (.cells #[.slice none 0 0] 22)) aw.lt).cells
      have hown := HR.out.1
      rw [List.take_of_length_le (by have := HM.out; omega)] at hown
      gi_wp2_with fail
      refine ⟨trivial, (callsIn_wide.2 (chspots_any _ _ _)).mono ?_⟩
      rintro e w' ⟨rfl, rfl⟩
      gi_wp2_with fail
      obtain ⟨q, hq⟩ : ∃ q, q = wr.heap.size := ⟨_, rfl⟩
      obtain ⟨w3, hw3⟩ : ∃ w3, w3 = (wr.alloc (.cells #[.slice none 0 0] 22)).alloc (.cells #[.int .i64 ep, .slice aa A.length ca] 25) := ⟨_, rfl⟩
      have hs3 : w3.heap.size = q + 2 := by rw [hw3, hq]; simp
      have hU3 : Below wr.heap.size wr w3 := by rw [hw3]; exact ((Below.refl _ wr).alloc (Nat.le_refl _) _).alloc (by simp) _
      have hBr : Below w.heap.size w wr := HR.out.2.below HU.out (fun x hx => by omega) (by omega)
      have hB3 : Below w.heap.size w w3 := hBr.trans (hU3.mono (by omega))
      have a3 : ChT w3 w.heap.size ep (.slice aa A.length ca) := aw.keep hU3 aw.lt
      have r3 : ChT w3 (w.heap.size + 1) 0 (.slice none 0 0) := rw'.keep hU3 rw'.lt
      have b3 : w3.heap[w.heap.size + 3]? = some (.cells #[.map (some (w.heap.size + 2))] 47 (0, 0)) := (hU3.block _ (by omega)).trans hbx
      have m3 : w3.ownsMap Try.prog 3 (unitElem (H := Unit)) (w.heap.size + 2) k (outM l) := ownsMap_eq hown (hU3.block _ (by omega))
      have x3 : Boxed w3 q 22 (.slice none 0 0) := by rw [hw3, hq]; exact (Boxed.new wr 22 _).alloc _
      have c3 : ChT w3 (q + 1) ep (.slice aa A.length ca) := by
        rw [hw3, hq]
        have := ChT.fresh (wr.alloc (.cells #[.slice none 0 0] 22)) ep (.slice aa A.length ca)
        rwa [World.size_alloc] at this
      have hq4 : w.heap.size + 4 ≤ q := by omega
      rw [← hw3, ← hq]
      clear hw3 hU3 hBr aw rw' d0 d1 hown hbx cb hs0 hsz HR m0
      clear hq
      refine wpIn_rangeFunc_ownH hro h1 (gf := 40) (lb := #[.pointer (some ⟨q + 1, 0, none⟩)]) rfl trivial (enters_of Try.func40 (by kernel_rfl) rfl)
        (spotsW_stops (fu - 1) (q + 1) w.heap.size B ep (.slice aa A.length ca) w A (by omega) HAW.out HA.out hB w3 (hB3.mono hB) (by omega) c3.chB)
        (fun h k => KeepB.trans h k) (fun W l o o' hl ho h1 h2 => ⟨belowK_b (w := w3) (by omega) W l o o' hl ho h1 h2, World.putObj_heap_other (by omega)⟩) (Below.refl _ _) (fun _ => rfl)
        (fun pre W => ((∃ v, Boxed W q 22 v ∧ W.ownsRow q 3 1 v (leftW l pre).length (intCells (leftW l pre))) ∧ W.ownsMap Try.prog 3 (unitElem (H := Unit)) (w.heap.size + 2) k (outM l) ∧ W.heap[w.heap.size + 3]? = some (.cells #[.map (some (w.heap.size + 2))] 47 (0, 0)) ∧
          ChT W w.heap.size ep (.slice aa A.length ca) ∧ ChT W (w.heap.size + 1) 0 (.slice none 0 0) ∧ ChT W (q + 1) ep (.slice aa A.length ca) ∧ q + 2 ≤ W.heap.size) ∧ Below w.heap.size w W)
        (fun _ _ _ => False)
        (OwnFrom.and (fun s X Y row ⟨⟨v, h1, h2⟩, h3, h4, h5, h6, h7, h8⟩ hg hr => ⟨⟨v, cells_own h1 hg (fun r e => (hr r e).2), row_own h2 hg (fun r e => (hr r e).2)⟩, h3.kept hg (fun e => by have := (hr _ e.symm).1; omega), cells_own h4 hg (fun r e => (hr r e).2), cells_own h5 hg (fun r e => (hr r e).2), cells_own h6 hg (fun r e => (hr r e).2), cells_own h7 hg (fun r e => (hr r e).2), Nat.le_trans h8 hg.size⟩) (ownFrom_below (Nat.le_refl _) (by omega)))
        (fun _ _ _ _ _ hs _ _ => hs)
        ⟨⟨⟨_, x3, World.ownsRow_nil _ _ _ _⟩, m3, b3, a3, r3, c3, by omega⟩, hB3⟩
        (fun y a' W => ∃ Bx, SpB W Bx y.s ∧ a' = { tmps := #[.agg #[.int .i64 ep, .slice aa A.length ca], .slice al k cl, .pointer (some ⟨w.heap.size, 0, none⟩), undef, .pointer (some ⟨w.heap.size + 1, 0, none⟩), .int .i64 0, .pointer (some ⟨w.heap.size + 3, 0, none⟩), undef, u8, .pointer (some ⟨q, 0, none⟩), .pointer (some ⟨Bx, 0, none⟩), undef, undef,
            .map (some (w.heap.size + 2)), .slice al k cl, .int .i64 k, .int .i64 k, .bool false, u18, u19, u20, u21, u22, u23, .agg #[.int .i64 ep, .slice aa A.length ca], .func (.func 40) #[] #[.pointer (some ⟨q + 1, 0, none⟩)], y.s.val,
            undef, undef, undef, undef, undef, undef, undef, undef, undef, undef, undef, undef, undef, undef, undef, undef, undef, undef, undef], defers := [] })
        (fun y a' => fun s X Y row ⟨Bx, hbx, ha⟩ hg hr => ⟨Bx, cells_own hbx hg (fun r e => (hr r e).2), ha⟩) ?assign ?body ?done ?stop
      case assign =>
        rintro lo pre y W K ⟨⟨⟨v, i1, i2⟩, i3, i4, i5, i6, i7, i8⟩, hBw⟩ hK
        simp only [encW, encSp, SpotV.val]
        gi_wp2
        have hb1 : Below W.heap.size W (W.alloc (.cells #[.int .i64 y.s.ab, .int .i64 y.s.nd, .int .i64 y.s.bl] 43)) := (Below.refl _ W).alloc (Nat.le_refl _) _
        exact hK _ _ ((KeepsOthers.alloc _ _).from _) (.of hb1 hBw.size (by omega)) ⟨⟨⟨v, i1.alloc _, i2.alloc _⟩, i3.alloc _, (hb1.block _ (by omega)).trans i4, i5.keep hb1 i5.lt, i6.keep hb1 i6.lt, i7.keep hb1 i7.lt, by simp; omega⟩, hBw.trans (hb1.mono hBw.size)⟩ ⟨W.heap.size, heap_alloc_new W _, rfl⟩
      case body =>
        rintro lo pre ⟨⟨yp, yx, yr⟩, yw⟩ a' W hlo ⟨rr, hr⟩ ⟨⟨⟨v, i1, i2⟩, i3, i4, i5, i6, i7, i8⟩, hBw⟩ ⟨Bx, bX, rfl⟩ hlt
        obtain ⟨va, vc, rfl⟩ := own_shape i2
        obtain ⟨⟨x0, x1, x2⟩, _⟩ := bX.cells
        dsimp only [SpotV.val] at x0 x1 x2 ⊢
        have cb : W.cell? ⟨w.heap.size + 3, 0, none⟩ = some (.map (some (w.heap.size + 2))) := cell_of_one i4
        have hkey : keyOf Try.prog 3 (.int .i64 yx) = some (.int .i64 yx) := keyOf_int_mk Try.underlying3 (wf_lit yw)
        have hbq : Below W.heap.size W (W.alloc (.cells #[] 48)) := (Below.refl _ W).alloc (Nat.le_refl _) _
        have I1 := Lib.hid i1
        have I2 := Lib.hid i2
        have I3 := Lib.hid i3
        have I4 := Lib.hid i4
        have I5 := Lib.hid i5
        have I6 := Lib.hid i6
        have I7 := Lib.hid i7
        have HBW := Lib.hid hBw
        have HBQ := Lib.hid hbq
        have hlen := leftW_len l pre
        have hs8 := i8
        clear hr bX hbq i5 i6 i7 i4 hBw
        by_cases hin : yx ∈ l
        · have hhas : Maps.has (outM l) (.int .i64 yx) = true := by rw [outM_has]; exact decide_eq_true hin
          have hlw : Hid (leftW l (pre ++ [⟨⟨yp, yx, yr⟩, yw⟩]) = leftW l pre) := leftW_in (y := ⟨⟨yp, yx, yr⟩, yw⟩) hin
          clear hin hlt
          gi_wp2_with (gi_at_lookup; refine wpListIn_lookup_own_unit _ rfl _ _ 47 rfl 3 48 (int_keyed Try.underlying3) Try.underlying47 (zero_unit _) (w.heap.size + 2) k (outM l) rfl i3 _ _ rfl hkey ?_; rw [hhas])
          exact ⟨(KeepsOthers.alloc _ _).from _, .of HBQ.out HBW.out.size (by omega), ⟨⟨_, (HBQ.out.block _ (by omega)).trans I1.out, by rw [hlw.out]; exact I2.out.alloc _⟩, I3.out.alloc _, (HBQ.out.block _ (by omega)).trans I4.out, I5.out.keep HBQ.out I5.out.lt, I6.out.keep HBQ.out I6.out.lt, I7.out.keep HBQ.out I7.out.lt, by simp; omega⟩, HBW.out.trans (HBQ.out.mono HBW.out.size)⟩
        · have hhas : Maps.has (outM l) (.int .i64 yx) = false := by rw [outM_has]; exact decide_eq_false hin
          have hlw : Hid (leftW l (pre ++ [⟨⟨yp, yx, yr⟩, yw⟩]) = leftW l pre ++ [yx]) := leftW_out (y := ⟨⟨yp, yx, yr⟩, yw⟩) hin
          have hlt' : (leftW l pre).length ≤ 100 := by omega
          have cq : (W.alloc (.cells #[] 48)).cell? ⟨q, 0, none⟩ = some (.slice va (leftW l pre).length vc) := Boxed.cell ((HBQ.out.block _ (by omega)).trans I1.out)
          have cx : (W.alloc (.cells #[] 48)).cell? ⟨Bx, 1, none⟩ = some (.int .i64 yx) := by
            rw [World.cell?_alloc_some _ _ _ (by rw [x1]; rfl)]; exact x1
          have hcn : ∀ j u, [Value.int .i64 yx][j]? = some u → ((W.alloc (.cells #[] 48)).alloc (.cells #[.int .i64 yx] 3)).cell? ((⟨W.heap.size + 1, 0, none⟩ : Addr).add j) = some u := by
            have := cell_one_new (W.alloc (.cells #[] 48)) (.int .i64 yx) 3
            rwa [World.size_alloc] at this
          have HCN := Lib.hid hcn
          have BX2 : Hid (Boxed (W.alloc (.cells #[] 48)) q 22 (.slice va (leftW l pre).length vc)) := (HBQ.out.block _ (by omega)).trans I1.out
          have HQ7 : Hid (q ≤ (W.alloc (.cells #[] 48)).heap.size) := by show _ ≤ _; simp; omega
          have HQ8 : Hid (q ≤ ((W.alloc (.cells #[] 48)).alloc (.cells #[.int .i64 yx] 3)).heap.size) := by show _ ≤ _; simp; omega
          have HB100 : Hid ((leftW l pre).length + 1 ≤ maxLen ∧ ((leftW l pre).length + 1) * 8 ≤ 140737488355328) := ⟨by unfold maxLen; omega, by omega⟩
          clear hin hlt hcn
          gi_wp2_with (first
            | (gi_at_lookup; refine wpListIn_lookup_own_unit _ rfl _ _ 47 rfl 3 48 (int_keyed Try.underlying3) Try.underlying47 (zero_unit _) (w.heap.size + 2) k (outM l) rfl i3 _ _ rfl hkey ?_; rw [hhas])
            | (gi_at_builtin; refine wpListIn_append_own _ rfl _ _ 22 rfl q 3 i0 (.int .i64 0) 1 8 Try.underlying22 hi hz0 hz1 hz2 rfl (by decide) _ _ _ rfl ((I2.out.alloc _).alloc _) ⟨W.heap.size + 1, 0, none⟩ 1 1 [.int .i64 yx] rfl rfl HCN.out (by simp [Value.oneCell']) HB100.out.1 HB100.out.2 HQ8.out ?_; intro v' w1 hown' hgrow _; obtain ⟨g', cap', rfl⟩ := ownsRow_succ hown'; obtain ⟨hv1, hv2, hr2, hk2, hb2⟩ := BX2.out.appended (by decide) (I2.out.alloc _) HQ7.out (Nat.le_refl _) hown' hgrow; have hc1 := hv1.cell; have hf1 := hv1.frozen; have HV2 := Lib.hid hv2; have HR2 := Lib.hid hr2; have HK2 := Lib.hid hk2; have HB2 := Lib.hid hb2; have HG2 := Lib.hid hgrow; clear hv1 hv2 hr2 hk2 hb2 hown' hgrow))
          have hb2 : Below q W _ := (HBQ.out.mono (by omega)).trans HB2.out
          have hs2 := hb2.size
          have hoth : ∀ b o, W.heap[b]? = some o → (∀ cs fr, o ≠ .cells cs 3 fr) → b ≠ q → (w1.setCell ⟨q, 0, none⟩ (.slice (some ⟨g', 0, none⟩) ((leftW l pre).length + 1) cap')).heap[b]? = W.heap[b]? := fun b o ho hT hne =>
            (app_other ((HBQ.out.block b (Array.getElem?_eq_some_iff.1 ho).1).trans ho) hT hne (I2.out.alloc _) HG2.out).trans (HBQ.out.block b (Array.getElem?_eq_some_iff.1 ho).1)
          refine ⟨((KeepsOthers.alloc _ _).trans HK2.out).from _, ⟨hb2.mono (by omega), hoth _ _ I7.out (fun _ _ h => by cases h) (by omega)⟩, ⟨⟨_, HV2.out, ?_⟩, ?_, ?_, ?_, ?_, ?_, by omega⟩, HBW.out.trans (hb2.mono (by omega))⟩
          · rw [hlw.out, List.length_append, ← cells_app]
            exact HR2.out
          · exact ownsMap_eq I3.out (hb2.block _ (by omega))
          · exact (hb2.block _ (by omega)).trans I4.out
          · exact (hb2.block _ (by omega)).trans I5.out
          · exact (hb2.block _ (by omega)).trans I6.out
          · exact (hoth _ _ I7.out (fun _ _ h => by cases h) (by omega)).trans I7.out
      case done =>
        rintro D ys W hD rfl ⟨⟨⟨v, i1, i2⟩, i3, i4, i5, i6, i7, i8⟩, hBw⟩ hK
        have hll : leftW l (mks (mkW A) A.length) = leftL A l := by
          unfold leftW
          rw [mkW_nodes HAW.out A.length (Nat.le_refl _), List.take_length]
        rw [hll] at i2
        have hln := leftL_len A l
        obtain ⟨va, vc, rfl⟩ := own_shape i2
        obtain ⟨d0, d1, _, _⟩ := i5.cells
        have cq := i1.cell
        have hi2 := ints_own i2 (Nat.le_refl _)
        have HBH : Hid (Calls Try.prog 29 #[.agg #[.int .i64 ep, .slice aa A.length ca], .slice va (leftL A l).length vc] W fun e w' => ∃ a n c, e = .returned (.tuple #[.agg #[.int .i64 ep', .slice a n c], .int .i64 er]) ∧ Hid ((er = 0 → n = (leftL A l).length ∧ w'.ownsRow q 3 1 (.slice a n c) n (intCells (leftL A l))) ∧ (er = 1 → a = none ∧ n = 0 ∧ c = 0) ∧ Below W.heap.size W w')) := by
          rcases HE.out with ⟨hmay, rfl, rfl⟩ | ⟨hmay, rfl, rfl⟩
          · refine (chbehind_yes ep (.slice aa A.length ca) _ (leftL A l) _ W hi2 (Nat.le_refl _) he hmay).mono fun e w' ⟨h1, h2⟩ => ?_
            exact ⟨va, _, vc, h1, fun _ => ⟨rfl, rowOn i2 h2⟩, (fun h => by cases h), h2⟩
          · refine (chbehind_no ep (.slice aa A.length ca) _ (leftL A l) _ W hi2 (Nat.le_refl _) he hmay).mono fun e w' ⟨h1, h2⟩ => ?_
            exact ⟨none, 0, 0, h1, (fun h => by cases h), fun _ => ⟨rfl, rfl, rfl⟩, h2⟩
        have I6 := Lib.hid i6
        have HBW := Lib.hid hBw
        have HKK := Lib.hid hK
        have HQD := Lib.hid hD
        clear i1 i2 i3 i4 i5 i6 i7 hBw hK hi2 hD
        gi_wp2_with fail
        refine ⟨trivial, (callsIn_wide.2 HBH.out).mono ?_⟩
        rintro e W1 ⟨a2, n2, c2, rfl, H2⟩
        have hb1 := H2.out.2.2
        have hs1 := hb1.size
        have r1 : ChT W1 (w.heap.size + 1) 0 (.slice none 0 0) := I6.out.keep hb1 I6.out.lt
        have k1 : W1.heap[D]? = some (.deferred (some [])) := (hb1.block D (Array.getElem?_eq_some_iff.1 HKK.out).1).trans HKK.out
        have HB1 := Lib.hid hb1
        obtain ⟨y0, y1, z0, z1⟩ := r1.cells
        obtain ⟨s1, s2⟩ := r1.stored (ep' := ep') (v' := .slice a2 n2 c2)
        have S1 := Lib.hid s1
        have S2 := Lib.hid s2
        have hDq := HQD.out
        have K4 : (chW W1 (w.heap.size + 1) ep' (.slice a2 n2 c2)).heap[D]? = some (.deferred (some [])) := (s2.block D (Array.getElem?_eq_some_iff.1 k1).1 (by omega)).trans k1
        have HK4 := Lib.hid K4
        clear s1 s2 r1 hb1 d0 d1 cq k1 K4
        gi_wp2
        refine ⟨by simp, .inl ⟨_, _, rfl, run_takeDeferred HK4.out, ?_⟩⟩
        have r5 : ChT ((chW W1 (w.heap.size + 1) ep' (.slice a2 n2 c2)).putObj D (.deferred none)) (w.heap.size + 1) ep' (.slice a2 n2 c2) := cells_own S1.out (grownBy_putObj' _ D (.deferred none)) (fun r e => by cases e; exact ⟨_, HK4.out, rfl⟩)
        obtain ⟨e0, e1, _, _⟩ := r5.cells
        unfold chW at e0 e1
        refine ⟨.tuple #[.agg #[.int .i64 ep', .slice a2 n2 c2], .int .i64 er], ?_, a2, n2, c2, rfl, fun h0 => ?_, H2.out.2.1, (S2.out.below (HBW.out.trans (HB1.out.mono HBW.out.size)) (fun x hx => by omega) (by omega)).trans (belowK_b (w := w) (Nat.le_refl _) _ D _ _ (by omega) HK4.out rfl rfl)⟩
        · simp [results, Try.results12, go_sem, e0, e1]
        · obtain ⟨h1, h2⟩ := H2.out.1 h0
          exact ⟨h1, own_base (ownsRow_putObj (own_only h2 S2.out (by omega)) _ HK4.out rfl) (by omega)⟩
      case stop =>
        rintro D c pre W _ _ h _
        exact h.elim

theorem chwithout_r (ep : Int) (va : Value) (A : List Int) (vl : Value) (l : List Int) (B : Nat) (w : World) (hIa : Ints w B va A) (hIl : Ints w B vl l) (hB : B ≤ w.heap.size) (hA : A.length ≤ 100) (hl : l.length ≤ 100) (hAw : ∀ x ∈ A, Wf x) (hlw : ∀ x ∈ l, Wf x) (he : wrap64 (ep + 1) = ep + 1) {ep' : Int} {er : Int}
    (hE : (ChainV.may ⟨ep + 1, leftL A l⟩ ∧ ep' = ep + 1 ∧ er = 0) ∨ (¬ ChainV.may ⟨ep + 1, leftL A l⟩ ∧ ep' = 0 ∧ er = 1)) :
    Calls Try.prog 12 #[.agg #[.int .i64 ep, va], vl] w fun e w' => ∃ a n c, e = .returned (.tuple #[.agg #[.int .i64 ep', .slice a n c], .int .i64 er]) ∧ (er = 0 → n = (leftL A l).length ∧ w'.ownsRow w.heap.size 3 1 (.slice a n c) n (intCells (leftL A l))) ∧ (er = 1 → a = none ∧ n = 0 ∧ c = 0) ∧ Below w.heap.size w w' :=
  callsIn_wide.1 (chwithout_in 3 B (Nat.le_refl _) ep va A vl l w hIa hIl hB hA hl hAw hlw he hE)
end Go.Proofs.Ytnliadnpoledmaa
