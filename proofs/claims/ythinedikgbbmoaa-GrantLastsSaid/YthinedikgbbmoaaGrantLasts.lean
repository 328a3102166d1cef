/-
  PROVED: casebooklaw15.GrantLasts answers true and leaves its arguments as they were, for any numbers: the row's own reading and nothing else is assumed.
-/
import Derived.Test.YthinedikgbbmoaaGrantT
import Derived.Test.YthinedikgbbmoaaPackT
namespace Go.Proofs.Ythinedikgbbmoaa.GrantLasts
open Go.ChangeShapes Go.WideShapes Go.ChangeAt Go.RowKit

/-- All below i but k. -/
def outL (k i : Nat) : List Int := (firstL i).filter fun x => x != (k : Int)
theorem outL_in (k i : Nat) (h : i ≠ k) : outL k (i + 1) = outL k i ++ [(i : Int)] := by
  have hb : ((i : Int) != (k : Int)) = true := by simp; omega
  rw [outL, firstL_succ, List.filter_append]
  simp [outL, hb]
theorem outL_out (k i : Nat) (h : i = k) : outL k (i + 1) = outL k i := by
  subst h
  rw [outL, firstL_succ, List.filter_append]
  simp [outL]
theorem outL_le (k i : Nat) : (outL k i).length ≤ i := Nat.le_trans (List.length_filter_le _ _) (by rw [firstL_length]; exact Nat.le_refl _)
theorem veto_lasts {t k v : Nat} (hk : k < 3) {F : Nat → Nat} (hF : F k = t + 50) : vetoV 3 F (v : Int) [0, 1, 2] (outL k 3) = decide (v < t + 50) := by
  unfold vetoV
  have hm : ∀ j : Nat, j < 3 → ((j : Int) ∈ outL k 3 ↔ j ≠ k) := fun j hj => by
    simp only [outL, firstL, List.mem_filter, List.mem_map, List.mem_range, bne_iff_ne, ne_eq]
    constructor
    · rintro ⟨_, h⟩ rfl
      exact h rfl
    · intro h
      exact ⟨⟨j, hj, rfl⟩, by omega⟩
  refine decide_eq_decide.2 ⟨fun ⟨j, hj, hl, _, hn⟩ => ?_, fun h => ⟨k, hk, ?_, ?_, ?_⟩⟩
  · obtain rfl : j = k := Classical.byContradiction fun e => hn ((hm j hj).2 e)
    rw [hF] at hl
    omega
  · rw [hF]; omega
  · rcases (show k = 0 ∨ k = 1 ∨ k = 2 by omega) with rfl | rfl | rfl <;> simp
  · intro h'
    exact (hm k hk).1 h' rfl
theorem veto_all (F : Nat → Nat) (x : Int) : vetoV 3 F x [0, 1, 2] [0, 1, 2] = false := by
  unfold vetoV
  exact decide_eq_false fun ⟨_, _, _, h1, h2⟩ => h2 h1
theorem row_low {w w' : World} {r m c q : Nat} {L : List Int} (h : RowI w (.slice (some ⟨r, 0, none⟩) m c) L) (hb : Below q w w') (hr : r < q) : RowI w' (.slice (some ⟨r, 0, none⟩) m c) L := by
  obtain ⟨ao, cap, he, h1, h2, h3, h4⟩ := h
  simp only [Value.slice.injEq] at he
  obtain ⟨rfl, rfl, rfl⟩ := he
  refine ⟨_, _, rfl, h1, h2, h3, fun hl => ?_⟩
  obtain ⟨b, off, cs, he, hbk, hc⟩ := h4 hl
  simp only [Option.some.injEq, Addr.mk.injEq] at he
  obtain ⟨rfl, rfl, _⟩ := he
  have e := hb.block r hr
  exact ⟨r, 0, cs, rfl, e.trans hbk, fun j hj => (World.cell?_of_block (a := ⟨r, 0 + j, Option.none⟩) e).trans (hc j hj)⟩

/-- What the loop turns: the chain q and its row; what lies below q is as it was in y. -/
structure LS (y : World) (q k i m : Nat) (a : Option Addr) (c : Nat) (u : World) : Prop where
  bel : Below q y u
  c2 : ChT u q 0 (.slice a m c)
  row : u.ownsRow (q + 1) 3 1 (.slice a m c) m (intCells (outL k i))
  len : m ≤ i

set_option maxRecDepth 100000 in
set_option maxHeartbeats 4000000 in
theorem walk (x y z : Int) (w : World) (_hx : (Lit.int .i64 x).wf = true) (_hy : (Lit.int .i64 y).wf = true) (_hz : (Lit.int .i64 z).wf = true) :
    Calls Try.prog 3 #[.int .i64 x, .int .i64 y, .int .i64 z] w fun e w' => e = .returned (.bool true) ∧ Below w.heap.size w w' := by
  obtain ⟨i0, hi, hz0, hz1, hz2⟩ := info_parts info_int12
  have HT := Lib.hid (fun u => told15_any u)
  obtain ⟨s, hs, es⟩ := left_of x 1000 (by decide) (by decide)
  obtain ⟨k, hk, ek⟩ := left_of y 3 (by decide) (by decide)
  obtain ⟨r, hr, er⟩ := left_of z 100 (by decide) (by decide)
  have ES : Hid (wrap64 ((IntKind.u64.wrap x).tmod 1000) = (s : Int)) := es
  have EK : Hid (wrap64 ((IntKind.u64.wrap y).tmod 3) = (k : Int)) := ek
  have ER : Hid (wrap64 ((IntKind.u64.wrap z).tmod 100) = (r : Int)) := er
  obtain ⟨t, ht⟩ : ∃ t, t = 50 + s := ⟨_, rfl⟩
  obtain ⟨v, hv⟩ : ∃ v, v = t + r := ⟨_, rfl⟩
  have E50 : Hid (wrap64 (50 + (s : Int)) = (t : Int)) := by show _ = _; rw [IntWalk.wrap64_in _ (by omega)]; omega
  have EX : Hid (wrap64 ((t : Int) + (r : Int)) = (v : Int)) := by show _ = _; rw [IntWalk.wrap64_in _ (by omega)]; omega
  have ht9 : t < 1050 := by omega
  have hv9 : v < 1150 := by omega
  obtain ⟨F, hF⟩ : ∃ F, F = upF (grOf 0 3) k (t + 50) := ⟨_, rfl⟩
  have fk : F k = t + 50 := by rw [hF, upF_same]
  obtain ⟨R, hR⟩ : ∃ R, R = decide (v < t + 50) := ⟨_, rfl⟩
  obtain ⟨n, hn⟩ : ∃ n, n = w.heap.size := ⟨_, rfl⟩
  rw [← hn]
  have HN : Hid (Calls Try.prog 6 #[.int .i64 3, .int .i64 0] w fun e w' => ∃ p, e = .returned (.tuple #[.pointer (some ⟨p, 0, none⟩), .int .i64 0]) ∧ Hid (GO n w p 3 0 (grOf 0 3) w' ∧ Below w.heap.size w w')) :=
    go_new 3 0 w (by decide) (by decide) (by omega) (Below.refl _ _) (Nat.le_of_eq hn)
  have HG : Hid (∀ u p, GO n w p 3 0 (grOf 0 3) u → Calls Try.prog 7 #[.pointer (some ⟨p, 0, none⟩), .int .i64 t, .int .i64 k] u fun e w' => e = .returned (.bool true) ∧ Hid (GO n w p 3 0 F w')) :=
    fun u p hu => (hu.give t k hk (by omega) (by omega)).mono fun _ _ ⟨he, hh⟩ => ⟨he, by
      have h := hh.out.1
      rw [show max (grOf 0 3 k) (t + 50) = t + 50 by simp [grOf, hk], ← hF] at h
      exact h⟩
  have HV : Hid (∀ u p q1 va q2 vb, GT n w p 3 0 F q1 1 va [0, 1, 2] q2 0 vb (outL k 3) u → Calls Try.prog 9 #[.pointer (some ⟨p, 0, none⟩), .int .i64 v, .agg #[.int .i64 1, va], .agg #[.int .i64 0, vb]] u fun e w' => e = .returned (.bool R) ∧ Hid (GT n w p 3 0 F q1 1 va [0, 1, 2] q2 0 vb (outL k 3) w')) :=
    fun u p q1 va q2 vb hu => (hu.g.veto _ 1 va [0, 1, 2] (by decide) 0 vb (outL k 3) (by have := outL_le k 3; omega) hu.x1 hu.x2 ((veto_lasts hk fk).trans hR.symm)).mono fun _ _ ⟨he, hb⟩ => ⟨he, hu.step hb⟩
  have HW : Hid (∀ u p q1 va q2 vb, GT n w p 3 0 F q1 1 va [0, 1, 2] q2 0 vb (outL k 3) u → Calls Try.prog 9 #[.pointer (some ⟨p, 0, none⟩), .int .i64 v, .agg #[.int .i64 1, va], .agg #[.int .i64 1, va]] u fun e w' => e = .returned (.bool false) ∧ Hid (GT n w p 3 0 F q1 1 va [0, 1, 2] q2 0 vb (outL k 3) w')) :=
    fun u p q1 va q2 vb hu => (hu.g.veto _ 1 va [0, 1, 2] (by decide) 1 va [0, 1, 2] (by decide) hu.x1 hu.x1 (veto_all _ _)).mono fun _ _ ⟨he, hb⟩ => ⟨he, hu.step hb⟩
  have HR := Lib.hid hR
  have HK3 := Lib.hid hk
  clear es ek er _hx _hy _hz hn hF fk hR ht hv hs hr
  go_enter Try.func3, Try.ntmps3
  go_wp2_with fail
  refine HN.out.mono ?_
  rintro e w1 ⟨p, rfl, H1⟩
  clear HN
  go_wp2_with fail
  rw [ES.out, EK.out, E50.out]
  refine (HG.out _ _ H1.out.1).mono ?_
  rintro e w2 ⟨rfl, G2⟩
  clear H1 HG
  obtain ⟨y2, hy2⟩ : ∃ y, y = w2.alloc (.cells #[.int .i64 0, .int .i64 1, .int .i64 2] 3) := ⟨_, rfl⟩
  obtain ⟨y3, hy3⟩ : ∃ y, y = y2.alloc (.cells #[.int .i64 1, .slice (some ⟨w2.heap.size, 0, none⟩) 3 3] 29) := ⟨_, rfl⟩
  obtain ⟨y4, hy4⟩ : ∃ y, y = y3.alloc (.cells #[.int .i64 0, .slice none 0 0] 29) := ⟨_, rfl⟩
  have e2 : Below w2.heap.size w2 y2 := by rw [hy2]; exact (Below.refl _ _).alloc (Nat.le_refl _) _
  have e3 : Below y2.heap.size y2 y3 := by rw [hy3]; exact (Below.refl _ _).alloc (Nat.le_refl _) _
  have e4 : Below y3.heap.size y3 y4 := by rw [hy4]; exact (Below.refl _ _).alloc (Nat.le_refl _) _
  have s2 : y2.heap.size = w2.heap.size + 1 := by rw [hy2]; simp
  have s3 : y3.heap.size = w2.heap.size + 1 + 1 := by rw [hy3]; simp [s2]
  have s4 : y4.heap.size = w2.heap.size + 1 + 1 + 1 := by rw [hy4]; simp [s3]
  have r1 : RowI y4 (.slice (some ⟨w2.heap.size, 0, none⟩) 3 3) [0, 1, 2] := by
    have r1 := row_lits w2 [0, 1, 2] 3 rfl (by decide)
    rw [show (intCells [0, 1, 2]).toArray = #[.int .i64 0, .int .i64 1, .int .i64 2] from rfl, ← hy2] at r1
    exact (r1.on e3).on e4
  have k1 : ChT y4 (w2.heap.size + 1) 1 (.slice (some ⟨w2.heap.size, 0, none⟩) 3 3) := by
    have k1 := ChT.fresh y2 1 (.slice (some ⟨w2.heap.size, 0, none⟩) 3 3)
    rw [← hy3, s2] at k1
    exact k1.keep e4 (by omega)
  have k2 : ChT y4 (w2.heap.size + 1 + 1) 0 (.slice none 0 0) := by
    have k2 := ChT.fresh y3 0 (.slice none 0 0)
    rw [← hy4, s3] at k2
    exact k2
  have g4 := ((G2.out.on e2).on e3).on e4
  have hp : p < w2.heap.size := G2.out.gr.lt
  have hnq : n ≤ w2.heap.size := G2.out.size
  rw [hy3, hy2] at hy4
  have HY := Lib.hid hy4
  have HK1 := Lib.hid k1
  have HK2 := Lib.hid k2
  have HR1 := Lib.hid r1
  have HG4 := Lib.hid g4
  have HP := Lib.hid hp
  have HNQ := Lib.hid hnq
  have HS4 := Lib.hid s4
  clear hy2 hy3 hy4 e2 e3 e4 s2 s3 s4 r1 k1 k2 g4 hp hnq G2
  go_wp2_with fail
  rw [← HY.out]
  obtain ⟨q, hq⟩ : ∃ q, q = w2.heap.size := ⟨_, rfl⟩
  rw [← hq] at HK1 HK2 HR1 HP HNQ HS4 ⊢
  clear hq HY
  go_loopw [13] (fun s13 wr => ∃ (i m : Nat) (a : Option Addr) (c : Nat), i ≤ 3 ∧ s13 = .int .i64 i ∧ Hid (LS y4 (q + 1 + 1) k i m a c wr)) (fun s13 _ => 3 - (intOf s13).toNat)
  case atStart => exact ⟨0, 0, none, 0, by omega, rfl, Below.refl _ _, HK2.out, World.ownsRow_nil _ _ _ _, Nat.le_refl _⟩
  case round =>
    clear HK2
    obtain ⟨i, m, a, c, hi3, rfl, HL⟩ := hrel
    by_cases hlt : i < 3
    · have i1 : (i : Int) < 3 := by omega
      by_cases hik : i = k
      · have hb : ((i : Int) != (k : Int)) = false := by rw [hik]; simp
        have HL2 : Hid (LS y4 (q + 1 + 1) k (i + 1) m a c wr) := ⟨HL.out.bel, HL.out.c2, by rw [outL_out k i hik]; exact HL.out.row, by have := HL.out.len; omega⟩
        clear hik
        go_wp2
        go_roundw
        case rel => exact ⟨i + 1, m, a, c, by omega, by go_num, HL2.out⟩
        case measure => simp [intOf]; omega
      · have hb : ((i : Int) != (k : Int)) = true := by simp; omega
        have HIK := Lib.hid hik
        have hsz := HL.out.c2.lt
        have hm3 := HL.out.len
        obtain ⟨c0, c1, f0, f1⟩ := HL.out.c2.cells
        clear hik
        go_wp2_with (at_builtin; refine wpList_append_own_src rfl (.tmp 49) (.tmp 51) 27 27 rfl (q + 1 + 1 + 1) 3 i0 (.int .i64 0) 1 8 Try.underlying27 hi hz0 hz1 hz2 rfl _ _ _ rfl (HL.out.row.alloc _) _ 1 (intCells [(i : Int)]) rfl (csrc1 wr _) ?c3 ?c4 ?c5 ?_)
        case c3 => unfold maxLen; omega
        case c4 => omega
        case c5 => simp; omega
        intro v2 w4 O2 G2
        obtain ⟨a2, c2, rfl⟩ := own_shape O2
        have hown : ∀ y, Value.ownBlock (.slice a m c) = some y → q + 1 + 1 + 1 ≤ y := fun y hy => (HL.out.row.lt y hy).1
        have hb2 : Below (q + 1 + 1) y4 w4 := (HL.out.bel.alloc (by omega) _).grown G2 (by simp; omega) (fun y hy => by have := hown y hy; omega)
        have q1 : ChT w4 (q + 1 + 1) 0 (.slice a m c) := (G2.block _ (by simp; omega) (fun e => by have := hown _ e.symm; omega)).trans (HL.out.c2.keep ((Below.refl _ wr).alloc (Nat.le_refl _) _) (by omega))
        have O2' := Lib.hid O2
        have Q1 := Lib.hid q1
        have HB2 := Lib.hid hb2
        clear c0 c1 f0 f1 O2 G2 hown hb2
        obtain ⟨c0, c1, f0, f1⟩ := q1.cells
        clear q1
        go_wp2_with fail
        go_roundw
        case rel =>
          have o1 := Only.set (q + 1 + 1) 1 w4 (.slice a2 (m + 1) c2)
          refine ⟨i + 1, m + 1, a2, c2, by omega, by go_num, o1.below HB2.out (fun x hx => by omega) (by have := HB2.out.size; have := HS4.out; omega), ?_, ?_, by omega⟩
          · show _ = _
            rw [heap_setCell_same _ _ _ _ _ _ Q1.out]
            rfl
          · rw [outL_in k i HIK.out, ← cells_app]
            exact own_only O2'.out o1 (by omega)
        case measure => simp [intOf]; omega
    · obtain rfl : i = 3 := by omega
      have TT : Hid (GT n w p 3 0 F (q + 1) 1 (.slice (some ⟨q, 0, none⟩) 3 3) [0, 1, 2] (q + 1 + 1) 0 (.slice a m c) (outL k 3) wr) := by
        have hp := HP.out
        have hnq := HNQ.out
        have hb := HL.out.bel
        refine ⟨⟨⟨(hb.block p (by omega)).trans HG4.out.gr.blk, HG4.out.gr.pos, HG4.out.gr.le⟩, HG4.out.bel.trans (hb.mono (by omega)), HG4.out.low, HG4.out.nw⟩, HK1.out.keep hb (by omega), row_low HR1.out hb (by omega), HL.out.c2, RowI.own HL.out.row⟩
      clear HL HG4 HK1 HR1 HP HNQ HS4
      go_wp2_with fail
      rw [ER.out, EX.out]
      refine (HT.out _).mono ?_
      rintro e w5 ⟨rfl, B5⟩
      have T5 := Lib.hid (TT.out.step B5)
      clear B5 TT
      obtain ⟨⟨d0, d1⟩, d2, d3⟩ := T5.out.cells
      go_wp2_with fail
      refine (HV.out _ _ _ _ _ _ T5.out).mono ?_
      rintro e w6 ⟨rfl, T6⟩
      clear d0 d1 d2 d3 T5
      obtain ⟨⟨d0, d1⟩, d2, d3⟩ := T6.out.cells
      cases R with
      | true =>
        have hr50 : (v : Int) < (t : Int) + 50 := by have := of_decide_eq_true HR.out.symm; omega
        go_wp2_with fail
        refine (HW.out _ _ _ _ _ _ T6.out).mono ?_
        rintro e w7 ⟨rfl, T7⟩
        go_wp2
        go_returns
        exact ⟨by first | rfl | trivial | (simp; omega), T7.out.g.bel⟩
      | false =>
        have hr50 : ¬ (v : Int) < (t : Int) + 50 := by have := of_decide_eq_false HR.out.symm; omega
        go_wp2_with fail
        refine (HW.out _ _ _ _ _ _ T6.out).mono ?_
        rintro e w7 ⟨rfl, T7⟩
        go_wp2
        go_returns
        exact ⟨by first | rfl | trivial | (simp; omega), T7.out.g.bel⟩

set_option maxRecDepth 100000 in
theorem lifted (os : Os) (started : os.Started) (H : Type) (enc : TypeId × Value → H) :
    ReturnsInHanded {} Try.checked os 3 .any (Rows.grantLastsSpec.pre6 enc Try.prog Try.f3 Rows.grantLastsRow.domain false) (Rows.grantLastsSpec.post enc Try.prog Try.f3 false true false false) := by
  refine returnsInHanded_of_change (C := Try.checked) own started (by kernel_rfl) Try.func3
    (ChangeSpec.witness6 (enc := enc) (C := Try.checked) false ⟨#[], #[.int .i64 0, .int .i64 0, .int .i64 0], []⟩ 8 (by kernel_rfl) (by kernel_rfl) (by kernel_rfl) (by kernel_rfl)) ?_
  intro W base args ds gs before hval0 hW hcnd _
  have hval : ∀ (j : Nat) t v, Try.f3.params[j]? = some t → args[j]? = some v → Value.okWide Try.prog W .any base t v := hval0
  have hW' := hW
  obtain ⟨p, q, hA0, hV, rfl, hfz, hnd⟩ := hW
  have hA : DataW.TrodAll enc Try.prog W 0 (fun _ => true) true Try.f3.params.toList args.toList ds p := hA0
  rw [Try.params3] at hA hval
  obtain ⟨v0, vs0, d0, ds0, p0, q0, hargs, rfl, rfl, h0, r0⟩ := trodAll_cons hA
  obtain ⟨v1, vs1, d1, ds1, p1, q1, rfl, rfl, rfl, h1, r1⟩ := trodAll_cons r0
  obtain ⟨v2, vs2, d2, ds2, p2, q2, rfl, rfl, rfl, h2, r2⟩ := trodAll_cons r1
  obtain ⟨rfl, rfl, rfl⟩ := trodAll_nil r2
  obtain rfl : args = #[v0, v1, v2] := by cases args; simp_all
  obtain ⟨rfl, rfl⟩ := trodVars_none hV
  obtain ⟨a0, rfl, rfl, rfl, w0⟩ := open_int Try.underlying3 (hval 0 3 v0 rfl rfl) h0
  obtain ⟨a1, rfl, rfl, rfl, w1⟩ := open_int Try.underlying3 (hval 1 3 v1 rfl rfl) h1
  obtain ⟨a2, rfl, rfl, rfl, w2⟩ := open_int Try.underlying3 (hval 2 3 v2 rfl rfl) h2
  clear hA0 hval0
  refine (walk a0 a1 a2 W w0 w1 w2).mono fun e W' ⟨he, bel⟩ => ?_
  subst he
  exact ⟨_, rfl, _, _, _, [], _, [], hW', trodAll_mk1 (shut_bool Try.underlying4 _), (trodAll_cons_mk (shut_int Try.underlying3 w0) (trodAll_cons_mk (shut_int Try.underlying3 w1) (trodAll_cons_mk (shut_int Try.underlying3 w2) trodAll_mk0))), rfl, bel.frame _, fun h => by cases h⟩

theorem over : Rows.grantLastsRow.holds Try.pinned (OpenSpec.ofChange Rows.grantLastsSpec) :=
  OpenClaim.holds_of_wide 3 Try.f3 rfl rfl rfl rfl rfl rfl rfl ⟨rfl, rfl, rfl, rfl, rfl⟩ rfl rfl rfl rfl rfl (by kernel_rfl) Try.func3 (by kernel_rfl)
    (of_decide_eq_true (by kernel_rfl)) (by unfold Func.isWrapper; first | (rw [if_pos (by decide +kernel)]; kernel_rfl) | (rw [if_neg (by decide +kernel)]; exact ⟨rfl, rfl⟩))
    (fun os started H enc _ => lifted os started H enc)
end Go.Proofs.Ythinedikgbbmoaa.GrantLasts

namespace Go.Proofs.Ythinedikgbbmoaa
theorem grantLasts_holds : Rows.GrantLastsSaid := GrantLasts.over
#print axioms grantLasts_holds
end Go.Proofs.Ythinedikgbbmoaa
