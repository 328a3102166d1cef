/-
  THE REFERENCE's STORE: Ask, Ids.
-/
import Derived.Test.YticokpaegadbbaaStoreG
namespace Go.Proofs.Yticokpaegadbbaa
open Go.RowKit

set_option maxRecDepth 100000 in
set_option maxHeartbeats 2000000 in
theorem rask_done (b i : Nat) (L : List VerV) (cl sq kd mt : Int) (dt : ByteArray) (l : List Int) (m : Nat) (cd vr : Int) (d : ByteArray) (w : World) (hi : i < 32) (hbl : b < w.heap.size) (hm : l.length = m)
    (ar : Option Addr) (nr cr : Nat) (hcr : w.cell? ⟨b, 2 + i, none⟩ = some (.slice ar nr cr)) (hvr : Vers w w.heap.size (.slice ar nr cr) L)
    (HM : Hid (∀ u, Calls Try.prog 35 #[.agg #[.int .i64 cl, .int .i64 sq, .int .i64 kd, .int .i64 i, .int .i64 mt, .string dt]] u fun e w' => e = .returned (.bool true) ∧ Below u.heap.size u w'))
    (HW : Hid (∀ u, Calls Try.prog 13 #[.agg #[.int .i64 cl, .int .i64 sq, .int .i64 kd, .int .i64 i, .int .i64 mt, .string dt]] u fun e w' => e = .returned (.bool false) ∧ Below u.heap.size u w'))
    (HD : Hid (∀ u v, Vers u u.heap.size v L → Calls Try.prog 38 #[v, .agg #[.int .i64 cl, .int .i64 sq, .int .i64 kd, .int .i64 i, .int .i64 mt, .string dt]] u (Tells l cd vr d u))) :
    Calls Try.prog 18 #[.pointer (some ⟨b, 0, none⟩), .agg #[.int .i64 cl, .int .i64 sq, .int .i64 kd, .int .i64 i, .int .i64 mt, .string dt]] w (AskTold l m cd vr d w) := by
  have j0 : (0 : Int) ≤ (i : Int) := by omega
  have j1 : (i : Int) < 32 := by omega
  have HO : Hid (∀ u, Below w.heap.size w u → u.cell? ⟨b, 2 + i, none⟩ = some (.slice ar nr cr)) := fun u hu => (hu.cell (p := ⟨b, 2 + i, none⟩) hbl).trans hcr
  have HD2 : Hid (∀ u, Below w.heap.size w u → Calls Try.prog 38 #[.slice ar nr cr, .agg #[.int .i64 cl, .int .i64 sq, .int .i64 kd, .int .i64 i, .int .i64 mt, .string dt]] u (TellsM l m cd vr d u)) :=
    fun u hu => (HD.out u _ (hvr.on hu)).mono fun _ _ h => h.m hm
  clear hcr hvr HD hm
  go_enter Try.func18, Try.ntmps18
  go_wp2_with fail
  refine (HM.out _).mono ?_
  rintro e w1 ⟨rfl, B1⟩
  have C1 : Hid (Below w.heap.size w w1) := (((Below.refl _ w).alloc (Nat.le_refl _) _).alloc (by simp) _).trans (B1.mono (by simp; omega))
  have R1 : Hid (RepAt w1 (w.heap.size + 1) 0 0 ⟨#[]⟩ (.slice none 0 0)) := RepAt.keep (RepAt.new1 w _ 0 0 ⟨#[]⟩ (.slice none 0 0)) B1 (by simp)
  have D1 : Hid (ReqB w1 w.heap.size cl sq kd i mt dt) := ((ReqB.fresh w cl sq kd i mt dt 40).keep ((Below.refl (w.heap.size + 1) _).alloc (by simp) _) (by omega)).keep B1 (by simp; omega)
  clear B1
  obtain ⟨c0, c1, c2, c3, c4, c5⟩ := D1.out.cells
  go_wp2_with fail
  refine (HW.out _).mono ?_
  rintro e w2 ⟨rfl, B2⟩
  have C2 : Hid (Below w.heap.size w w2) := C1.out.trans (B2.mono C1.out.size)
  have R2 := Lib.hid (R1.out.keep B2 R1.out.lt)
  have D2 := Lib.hid (D1.out.keep B2 D1.out.lt)
  clear B2 R1 D1 C1 c0 c1 c2 c3 c4 c5
  obtain ⟨c0, c1, c2, c3, c4, c5⟩ := D2.out.cells
  have co := HO.out w2 C2.out
  have CD : Hid (Below w.heap.size w w2.drew) := C2.out.drew
  go_wp2
  go_region_held3 (fun u => u.cell? ⟨b, 2 + i, none⟩ = some (.slice ar nr cr) ∧ u.cell? ⟨w.heap.size, 0, none⟩ = some (.int .i64 cl) ∧ u.cell? ⟨w.heap.size, 1, none⟩ = some (.int .i64 sq) ∧ u.cell? ⟨w.heap.size, 2, none⟩ = some (.int .i64 kd) ∧ u.cell? ⟨w.heap.size, 3, none⟩ = some (.int .i64 i) ∧ u.cell? ⟨w.heap.size, 4, none⟩ = some (.int .i64 mt) ∧ u.cell? ⟨w.heap.size, 5, none⟩ = some (.string dt)) (first | assumption | go_keep)
    (first
      | (go_at_call 38; refine (HD2.out _ CD.out).mono ?_; rintro e w5 ⟨ao, cap, rfl, I5, L5, B5⟩; obtain ⟨d0, d1, d2, d3, d4, d5⟩ := (D2.out.keep (undrew B5) D2.out.lt).cells; have co5 := HO.out w5 (CD.out.trans (B5.mono CD.out.size)); have HB5 := Lib.hid B5; have HI5 := Lib.hid I5; have HL5 : Hid (∀ a, ao = some a → a.block ≠ w.heap.size + 1) := fun a ha => by { have h1 := L5 a ha; have h2 := R2.out.lt; have h3 : w2.drew.heap.size = w2.heap.size := rfl; omega }; have HC5 := Lib.hid (CD.out.trans (B5.mono CD.out.size)); have R5 := R2.out.keep (undrew B5) R2.out.lt; have HR5 := Lib.hid R5; have lt5 := R5.lt; have nb : b ≠ w.heap.size + 1 := (by omega); have nb' : w.heap.size + 1 ≠ b := (by omega); obtain ⟨⟨x0, x1, x2, x3⟩, ⟨z0, z1, z2, z3⟩⟩ := R5.cells; clear R5 B5 I5 L5))
  rename_i hS
  clear hS d0 d1 d2 d3 d4 d5 c0 c1 c2 c3 c4 c5 co co5
  have HE := Lib.hid (rep_stored (c' := cd) (n' := vr) (d' := d) HR5.out (.slice ao m cap)).cells.1
  have HB := stored_besides w5 (w.heap.size + 1) cd vr d (.slice ao m cap)
  have HF := Lib.hid ((HI5.out.besides (Nat.le_refl _) HB (fun ao' n' cap' h a ha => by cases h; exact HL5.out a ha)).mono HB.size)
  have HG := Lib.hid (stored_below HC5.out (Nat.le_succ _) cd vr d (.slice ao m cap))
  clear HB
  go_wp2
  obtain ⟨e0, e1, e2, e3⟩ := HE.out
  unfold stored at e0 e1 e2 e3
  refine bodyPost_ret (v := .tuple #[.agg #[.int .i64 cd, .int .i64 vr, .string d, .slice ao m cap], .int .i64 0]) (by simp [results, Try.results18, go_sem, e0, e1, e2, e3]) rfl ⟨ao, cap, rfl, HF.out, HG.out⟩

theorem rask_r (b : Nat) (s : StoV) (N : Nat) (cl sq kd id mt : Int) (dt : ByteArray) (c r : Int) (d : ByteArray) (l : List Int) (m : Nat) (x : Int) (HA : Hid (askA s ⟨cl, sq, kd, id, mt, dt⟩ = ⟨⟨c, r, d, l⟩, x⟩)) (hlm : l.length = m) (hd : dt.size ≤ maxLen) (hf : Fit s N) (w : World) (h : Sto layR w b s) :
    Calls Try.prog 18 #[.pointer (some ⟨b, 0, none⟩), .agg #[.int .i64 cl, .int .i64 sq, .int .i64 kd, .int .i64 id, .int .i64 mt, .string dt]] w (AskR l m c r d x w) := by
  have hd' : dt.size ≤ 9223372036854775807 := by unfold maxLen at hd; omega
  have HA' := HA.out
  unfold askA at HA'
  by_cases hm : ReqV.may ⟨cl, sq, kd, id, mt, dt⟩
  · have HM : Hid (∀ u, Calls Try.prog 35 #[.agg #[.int .i64 cl, .int .i64 sq, .int .i64 kd, .int .i64 id, .int .i64 mt, .string dt]] u fun e w' => e = .returned (.bool true) ∧ Below u.heap.size u w') :=
      fun u => refmay_r cl sq kd id mt dt hd' true (decide_eq_true hm).symm u
    have hm' := hm
    unfold ReqV.may at hm'
    simp only at hm'
    by_cases hw : 3 < kd
    · rw [if_pos ⟨hm, hw⟩] at HA'
      obtain ⟨ha, rfl⟩ := AskA.mk.inj HA'
      have HW : Hid (∀ u, Calls Try.prog 13 #[.agg #[.int .i64 cl, .int .i64 sq, .int .i64 kd, .int .i64 id, .int .i64 mt, .string dt]] u fun e w' => e = .returned (.bool false) ∧ Below u.heap.size u w') :=
        fun u => refwrites_r cl sq kd id mt dt false (show _ = _ from (decide_eq_false (show ¬ (1 ≤ kd ∧ kd ≤ 3) by omega)).symm) u
      obtain ⟨i, rfl⟩ : ∃ i : Nat, id = i := ⟨id.toNat, by omega⟩
      have hi : i < 32 := by omega
      simp only [Int.toNat_natCast] at ha
      obtain ⟨ar, cr, hcr, hvr⟩ := sto_resR h i hi
      exact rask_done b i (s.res i) cl sq kd mt dt l m c r d w hi h.lt hlm ar _ cr hcr hvr HM HW
        (fun u v hv => refask_r v (s.res i) _ cl sq kd i mt dt c r d l (show _ = _ from ha) u hv (Nat.le_refl _) (by have := (hf.res i hi).1; omega))
    · rw [if_neg (fun h => hw h.2)] at HA'
      obtain ⟨ha, rfl⟩ := AskA.mk.inj HA'
      obtain ⟨rfl, rfl, rfl, rfl⟩ := RepV.mk.inj ha
      subst hlm
      have HW : Hid (∀ u, Calls Try.prog 13 #[.agg #[.int .i64 cl, .int .i64 sq, .int .i64 kd, .int .i64 id, .int .i64 mt, .string dt]] u fun e w' => e = .returned (.bool true) ∧ Below u.heap.size u w') :=
        fun u => refwrites_r cl sq kd id mt dt true (show _ = _ from (decide_eq_true (show 1 ≤ kd ∧ kd ≤ 3 by omega)).symm) u
      exact (rask_bad2 b cl sq kd id mt dt w HM HW).mono fun _ _ h => h.ask
  · rw [if_neg (fun h => hm h.1)] at HA'
    obtain ⟨ha, rfl⟩ := AskA.mk.inj HA'
    obtain ⟨rfl, rfl, rfl, rfl⟩ := RepV.mk.inj ha
    subst hlm
    have HM : Hid (∀ u, Calls Try.prog 35 #[.agg #[.int .i64 cl, .int .i64 sq, .int .i64 kd, .int .i64 id, .int .i64 mt, .string dt]] u fun e w' => e = .returned (.bool false) ∧ Below u.heap.size u w') :=
      fun u => refmay_r cl sq kd id mt dt hd' false (decide_eq_false hm).symm u
    exact (rask_bad1 b cl sq kd id mt dt w HM).mono fun _ _ h => h.ask

/-! ### Ids -/
set_option maxRecDepth 100000 in
set_option maxHeartbeats 2000000 in
theorem rids_in (b : Nat) (r : Nat → List VerV) (w : World) (HV : Hid (∀ i, i < 32 → ∃ ao cap, ∀ u, Below w.heap.size w u → u.cell? ⟨b, 2 + i, none⟩ = some (.slice ao (r i).length cap))) (hlen : ∀ k, k < 32 → (r k).length ≤ 1000000) :
    Calls Try.prog 39 #[.pointer (some ⟨b, 0, none⟩)] w fun e w' => ∃ v, e = .returned v ∧ w'.ownsRow w.heap.size 3 1 v (idsV r 32).length (intCells ((idsV r 32).map fun j : Nat => (j : Int))) ∧ Below w.heap.size w w' := by
  obtain ⟨i0, hi, hz0, hz1, hz2⟩ := info_parts info_intH
  have HL := Lib.hid hlen
  clear hlen
  go_enter Try.func39, Try.ntmps39
  go_wp2
  go_loopw [3, 4] (fun vo vi wr => ∃ (k n : Nat) (a : Option Addr) (c : Nat), k ≤ 32 ∧ vi = .int .i64 k ∧ vo = .slice a n c ∧ Hid (n = (idsV r k).length) ∧ wr.ownsRow w.heap.size 3 1 (.slice a n c) n (intCells ((idsV r k).map fun j : Nat => (j : Int))) ∧ Below w.heap.size w wr) (fun _ vi _ => 32 - (intOf vi).toNat)
  case atStart => exact ⟨0, 0, none, 0, by omega, rfl, rfl, (show _ = _ from rfl), World.ownsRow_nil _ _ _ _, Below.refl _ _⟩
  case round =>
    obtain ⟨k, n, a, c, hk, rfl, rfl, HN, hrow, hbel⟩ := hrel
    have HB := Lib.hid hbel
    have HR := Lib.hid hrow
    clear hrow
    by_cases hlt : k < 32
    · obtain ⟨ao, cap, hcc⟩ := HV.out k hlt
      have ck := hcc wr hbel
      have hl6 := HL.out k hlt
      have hn32 : n ≤ 32 := by have := HN.out; have := idsV_len r k; omega
      have k0 : (0 : Int) ≤ (k : Int) := by omega
      have k1 : (k : Int) < 32 := by omega
      have k2 : (k : Int) ≤ 31 := by omega
      clear hcc hbel
      by_cases hz : (r k).length = 0
      · have HE : Hid (idsV r (k + 1) = idsV r k) := idsV_no r k hz
        rw [hz] at ck
        clear hz
        go_wp2
        go_roundw
        case rel => exact ⟨k + 1, n, a, c, by omega, by go_num, rfl, (show _ = _ by rw [HE.out]; exact HN.out), by rw [HE.out]; exact HR.out, HB.out⟩
        case measure => simp [intOf]; omega
      · have HE : Hid (idsV r (k + 1) = idsV r k ++ [k]) := idsV_yes r k (by omega)
        have hp : 0 < (r k).length := by omega
        generalize (r k).length = m at ck hp hl6
        clear hz
        go_wp2_with (at_builtin; refine wpList_append_own_src rfl (.tmp 17) (.tmp 19) 32 32 rfl w.heap.size 3 i0 (.int .i64 0) 1 8 Try.underlying32 hi hz0 hz1 hz2 rfl _ _ _ rfl (HR.out.alloc _) _ 1 [Value.int .i64 (k : Int)] rfl (src_one_int wr _ _ rfl) ?c3 ?c4 ?c5 ?_)
        case c3 => unfold maxLen; omega
        case c4 => omega
        case c5 => have := HB.out.size; simp; omega
        intro v' w1 hown' hgrow
        obtain ⟨a', c', rfl⟩ := own_shape hown'
        have HO := Lib.hid hown'
        have HB1 : Hid (Below w.heap.size w w1) := (HB.out.alloc HB.out.size _).grown hgrow (by have := HB.out.size; simp; omega) (fun j hj => (HR.out.lt j hj).1)
        clear hown' hgrow
        go_wp2
        go_roundw
        case rel =>
          refine ⟨k + 1, n + 1, a', c', by omega, by go_num, rfl, (show _ = _ by rw [HE.out, List.length_append, HN.out]; rfl), ?_, HB1.out⟩
          have h := HO.out
          rw [HE.out]
          simpa [intCells] using h
        case measure => simp [intOf]; omega
    · obtain rfl : k = 32 := by omega
      go_wp2
      go_returns
      exact ⟨_, rfl, by rw [← HN.out]; exact HR.out, HB.out⟩
theorem rids_r (b : Nat) (s : StoV) (w : World) (h : Sto layR w b s) (hlen : ∀ k, k < 32 → (s.res k).length ≤ 1000000) :
    Calls Try.prog 39 #[.pointer (some ⟨b, 0, none⟩)] w fun e W' => ∃ v, e = .returned v ∧ W'.ownsRow w.heap.size 3 1 v (idsV s.res 32).length (intCells (idL s)) ∧ Below w.heap.size w W' := by
  have hbl := h.lt
  refine rids_in b s.res w (fun i hi => ?_) hlen
  obtain ⟨ao, cap, hcc, _⟩ := sto_resR h i hi
  exact ⟨ao, cap, fun u hu => (hu.cell (p := ⟨b, 2 + i, none⟩) hbl).trans hcc⟩
end Go.Proofs.Yticokpaegadbbaa
