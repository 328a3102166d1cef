/-
  PROVED: casebooklaw4.ChartDoes answers true and leaves its arguments as they were, for any versions, any request, any quota: the row's own reading and nothing else is assumed.
-/
import Derived.Test.YtichojlijhnlpaaChartArgs
import Derived.Test.YtichojlijhnlpaaChartK
import Derived.Test.YtichojlijhnlpaaChartE
namespace Go.Proofs.Ytichojlijhnlpaa.ChartDoes
open Go.ChangeShapes Go.WideShapes Go.ChangeAt Go.RowKit

set_option maxRecDepth 100000 in
set_option maxHeartbeats 1000000 in
theorem notfew (ao : Option Addr) (n cap : Nat) (cl sq kd id mt : Int) (dt : ByteArray) (quota : Int) (w : World)
    (HF : Hid (∀ u, Below w.heap.size w u → Calls Try.prog 10 #[.slice ao n cap, .agg #[.int .i64 cl, .int .i64 sq, .int .i64 kd, .int .i64 id, .int .i64 mt, .string dt]] u fun e w' => e = .returned (.bool false) ∧ Below u.heap.size u w')) :
    Calls Try.prog 3 #[.slice ao n cap, .agg #[.int .i64 cl, .int .i64 sq, .int .i64 kd, .int .i64 id, .int .i64 mt, .string dt], .int .i64 quota] w fun e w' => e = .returned (.bool true) ∧ Below w.heap.size w w' := by
  have HT := Lib.hid (fun u => told4_any u)
  go_enter Try.func3, Try.ntmps3
  go_wp2_with fail
  refine (HF.out _ (by go_grown)).mono ?_
  rintro e w1 ⟨rfl, B1⟩
  have C1 := Lib.hid (((Below.refl _ w).alloc (Nat.le_refl _) _).trans (B1.mono (by simp)))
  clear B1
  go_wp2_with fail
  refine (HT.out _).mono ?_
  rintro e w2 ⟨rfl, B2⟩
  have C2 := Lib.hid (C1.out.trans (B2.mono C1.out.size))
  clear B2
  go_wp2
  go_returns
  exact ⟨rfl, C2.out⟩

/-- What holds of a world behind W. -/
def At (W : World) (Q R S : Nat) (cl sq kd id mt : Int) (dt : ByteArray) (c r : Int) (d : ByteArray) (o1 o2 : Value) (u : World) : Prop :=
  Below W.heap.size W u ∧ (u.cell? ⟨Q, 0, none⟩ = some (.int .i64 cl) ∧ u.cell? ⟨Q, 1, none⟩ = some (.int .i64 sq) ∧ u.cell? ⟨Q, 2, none⟩ = some (.int .i64 kd) ∧ u.cell? ⟨Q, 3, none⟩ = some (.int .i64 id) ∧ u.cell? ⟨Q, 4, none⟩ = some (.int .i64 mt) ∧ u.cell? ⟨Q, 5, none⟩ = some (.string dt)) ∧
  (u.cell? ⟨R, 0, none⟩ = some (.int .i64 c) ∧ u.cell? ⟨R, 1, none⟩ = some (.int .i64 r) ∧ u.cell? ⟨R, 2, none⟩ = some (.string d) ∧ u.cell? ⟨R, 3, none⟩ = some o1) ∧
  (u.cell? ⟨S, 0, none⟩ = some (.int .i64 c) ∧ u.cell? ⟨S, 1, none⟩ = some (.int .i64 r) ∧ u.cell? ⟨S, 2, none⟩ = some (.string d) ∧ u.cell? ⟨S, 3, none⟩ = some o2)

set_option maxRecDepth 100000 in
set_option maxHeartbeats 4000000 in
theorem main (ao : Option Addr) (n cap : Nat) (L L' : List VerV) (n' : Nat) (cl sq kd id mt : Int) (dt : ByteArray) (quota c r : Int) (d : ByteArray) (l : List Int) (m : Nat) (c2 r2 : Int) (d2 : ByteArray) (l2 : List Int) (m2 : Nat) (w : World)
    (hn : L.length = n) (h60 : n ≤ 60)
    (HV : Hid (∀ u, Below w.heap.size w u → Vers u w.heap.size (.slice ao n cap) L))
    (HF : Hid (∀ u, Below w.heap.size w u → Calls Try.prog 10 #[.slice ao n cap, .agg #[.int .i64 cl, .int .i64 sq, .int .i64 kd, .int .i64 id, .int .i64 mt, .string dt]] u fun e w' => e = .returned (.bool true) ∧ Below u.heap.size u w'))
    (HD : Hid (∀ u, Below w.heap.size w u → Calls Try.prog 12 #[.slice ao n cap, .agg #[.int .i64 cl, .int .i64 sq, .int .i64 kd, .int .i64 id, .int .i64 mt, .string dt], .int .i64 quota] u (DoesN L' n' l m c r d u)))
    (HRD : Hid (∀ v u, Vers u u.heap.size v L → Calls Try.prog 13 #[v, .agg #[.int .i64 cl, .int .i64 sq, .int .i64 kd, .int .i64 id, .int .i64 mt, .string dt], .int .i64 quota] u (DoesN L' n' l m c r d u)))
    (HA : Hid (∀ u, Below w.heap.size w u → Calls Try.prog 16 #[.slice ao n cap, .agg #[.int .i64 cl, .int .i64 sq, .int .i64 kd, .int .i64 id, .int .i64 mt, .string dt]] u (TellsN l2 m2 c2 r2 d2 u)))
    (HRA : Hid (∀ v u, Vers u u.heap.size v L → Calls Try.prog 17 #[v, .agg #[.int .i64 cl, .int .i64 sq, .int .i64 kd, .int .i64 id, .int .i64 mt, .string dt]] u (TellsN l2 m2 c2 r2 d2 u)))
    (HVV : Hid (∀ v1 v2 M u, (M = L ∨ M = L') → Vers u u.heap.size v1 M → Vers u u.heap.size v2 M → Calls Try.prog 14 #[v1, v2] u fun e w' => e = .returned (.bool true) ∧ Below u.heap.size u w'))
    (HSR : Hid (∀ v1 v2 cc rr dd M u, (M = l ∨ M = l2) → Ints u u.heap.size v1 M → Ints u u.heap.size v2 M → Calls Try.prog 15 #[.agg #[.int .i64 cc, .int .i64 rr, .string dd, v1], .agg #[.int .i64 cc, .int .i64 rr, .string dd, v2]] u fun e w' => e = .returned (.bool true) ∧ Below u.heap.size u w')) :
    Calls Try.prog 3 #[.slice ao n cap, .agg #[.int .i64 cl, .int .i64 sq, .int .i64 kd, .int .i64 id, .int .i64 mt, .string dt], .int .i64 quota] w fun e w' => e = .returned (.bool true) ∧ Below w.heap.size w w' := by
  have HT := Lib.hid (fun u => told4_any u)
  have HN := Lib.hid hn
  obtain ⟨i0, hi, hz0, hz1, hz2⟩ := info_parts info_Version
  clear hn
  go_enter Try.func3, Try.ntmps3
  go_wp2_with fail
  refine (HF.out _ (by go_grown)).mono ?_
  rintro e w1 ⟨rfl, B1⟩
  have C1 := Lib.hid (((Below.refl _ w).alloc (Nat.le_refl _) _).trans (B1.mono (by simp)))
  have D1 : Hid (ReqB w1 w.heap.size cl sq kd id mt dt) := (ReqB.fresh w _ _ _ _ _ _ 24).keep B1 (by simp)
  have HS : Hid (Src Try.prog 2 22 (.slice ao n cap) n (verCells L) (w1.alloc (.cells #[] 38))) := by
    have h := src_vers (HV.out _ (C1.out.alloc C1.out.size (.cells #[] 38)))
    rw [HN.out] at h
    exact h
  clear B1
  go_wp2_with (at_builtin; refine wpList_append_own_src rfl (.tmp 17) (.tmp 18) 22 22 rfl w1.heap.size 38 i0 (.agg #[.bool false, .string ⟨#[]⟩]) 2 24 Try.underlying22 hi hz0 hz1 hz2 rfl _ _ _ rfl (World.ownsRow_made w1 #[] 0 (Nat.le_refl _) (Nat.zero_le _) rfl) _ n (verCells L) rfl HS.out ?c3 ?c4 ?c5 ?_)
  case c3 => unfold maxLen; omega
  case c4 => omega
  case c5 => simp
  intro v2 w2 O2 G2
  have B2 : Below w1.heap.size w1 w2 := ((Below.refl _ w1).alloc (Nat.le_refl _) _).grown G2 (by simp) (by intro k hk; simp [Value.ownBlock] at hk; omega)
  obtain ⟨wa, wc, rfl⟩ := own_shape O2
  have V2 := Lib.hid (vers_own O2 (Nat.le_refl _))
  have C2 := Lib.hid (C1.out.trans (B2.mono C1.out.size))
  have D2 := Lib.hid (D1.out.keep B2 D1.out.lt)
  clear O2 G2 B2 D1 C1 HS
  obtain ⟨q0, q1, q2, q3, q4, q5⟩ := D2.out.cells
  go_wp2_with fail
  refine (HD.out _ C2.out).mono ?_
  rintro e w3 ⟨a1, k1, o1, p1, rfl, V3, I3, B3⟩
  have B3' : Below w2.heap.size w2 (w3.alloc (.cells #[.int .i64 c, .int .i64 r, .string d, .slice o1 m p1] 29)) := B3.alloc B3.size _
  have B3a := (Below.refl _ w3).alloc (Nat.le_refl _) (.cells #[.int .i64 c, .int .i64 r, .string d, .slice o1 m p1] 29)
  have C3 := Lib.hid (C2.out.trans (B3'.mono C2.out.size))
  have D3 := Lib.hid (D2.out.keep B3' D2.out.lt)
  have W3 := Lib.hid (V2.out.on B3')
  have A3 := Lib.hid (V3.on B3a)
  have J3 := Lib.hid ((I3.keep B3a).mono B3a.size)
  have R3 := Lib.hid (RepAt.new w3 c r d (.slice o1 m p1))
  clear V3 I3 B3 B3' B3a V2 D2 C2 q0 q1 q2 q3 q4 q5
  obtain ⟨q0, q1, q2, q3, q4, q5⟩ := D3.out.cells
  have lq := D3.out.lt
  go_wp2_with fail
  refine (HRD.out _ _ W3.out).mono ?_
  rintro e w4 ⟨a2, k2, o2, p2, rfl, V4, I4, B4⟩
  have B4' : Below _ _ (w4.alloc (.cells #[.int .i64 c, .int .i64 r, .string d, .slice o2 m p2] 29)) := B4.alloc B4.size _
  have B4a := (Below.refl _ w4).alloc (Nat.le_refl _) (.cells #[.int .i64 c, .int .i64 r, .string d, .slice o2 m p2] 29)
  have C4 := Lib.hid (C3.out.trans (B4'.mono C3.out.size))
  have D4 := Lib.hid (D3.out.keep B4' D3.out.lt)
  have W4 := Lib.hid (W3.out.on B4')
  have A4 := Lib.hid (A3.out.on B4')
  have J4 := Lib.hid ((J3.out.keep B4').mono B4'.size)
  have R4 := Lib.hid (R3.out.keep B4' R3.out.lt)
  have E4 := Lib.hid (V4.on B4a)
  have K4 := Lib.hid ((I4.keep B4a).mono B4a.size)
  have S4 := Lib.hid (RepAt.new w4 c r d (.slice o2 m p2))
  clear V4 I4 B4 B4' B4a W3 A3 J3 R3 D3 C3 q0 q1 q2 q3 q4 q5 lq
  go_wp2_with fail
  obtain ⟨W, hW⟩ : ∃ W, W = w4.alloc (.cells #[.int .i64 c, .int .i64 r, .string d, .slice o2 m p2] 29) := ⟨_, rfl⟩
  rw [← hW] at C4 D4 W4 A4 J4 R4 E4 K4 S4 ⊢
  clear hW
  have FX : Hid (∀ u, Below W.heap.size W u → At W w.heap.size w3.heap.size w4.heap.size cl sq kd id mt dt c r d (.slice o1 m p1) (.slice o2 m p2) u) :=
    fun u hu => ⟨hu, (D4.out.keep hu D4.out.lt).cells, (R4.out.keep hu R4.out.lt).cells.1, (S4.out.keep hu S4.out.lt).cells.1⟩
  have XT : Hid (∀ u, Below W.heap.size W u → Calls Try.prog 11 #[] u fun e u' => e = .returned (.bool true) ∧ Below W.heap.size W u') :=
    fun u hu => (HT.out u).mono fun e u' ⟨he, hb⟩ => ⟨he, hu.trans (hb.mono hu.size)⟩
  have XV : Hid (∀ u, Below W.heap.size W u → Calls Try.prog 14 #[.slice a1 n' k1, .slice a2 n' k2] u fun e u' => e = .returned (.bool true) ∧ Below W.heap.size W u') :=
    fun u hu => (HVV.out _ _ L' u (.inr rfl) (A4.out.on hu) (E4.out.on hu)).mono fun e u' ⟨he, hb⟩ => ⟨he, hu.trans (hb.mono hu.size)⟩
  have XL : Hid (∀ u, Below W.heap.size W u → Calls Try.prog 14 #[.slice ao n cap, .slice wa n wc] u fun e u' => e = .returned (.bool true) ∧ Below W.heap.size W u') :=
    fun u hu => (HVV.out _ _ L u (.inl rfl) ((HV.out u (C4.out.trans (hu.mono C4.out.size))).mono (Nat.le_trans C4.out.size hu.size)) (W4.out.on hu)).mono fun e u' ⟨he, hb⟩ => ⟨he, hu.trans (hb.mono hu.size)⟩
  have XS : Hid (∀ u, Below W.heap.size W u → Calls Try.prog 15 #[.agg #[.int .i64 c, .int .i64 r, .string d, .slice o1 m p1], .agg #[.int .i64 c, .int .i64 r, .string d, .slice o2 m p2]] u fun e u' => e = .returned (.bool true) ∧ Below W.heap.size W u') :=
    fun u hu => (HSR.out _ _ c r d l u (.inl rfl) ((J4.out.keep hu).mono hu.size) ((K4.out.keep hu).mono hu.size)).mono fun e u' ⟨he, hb⟩ => ⟨he, hu.trans (hb.mono hu.size)⟩
  have XA : Hid (∀ u, Below W.heap.size W u → Calls Try.prog 16 #[.slice ao n cap, .agg #[.int .i64 cl, .int .i64 sq, .int .i64 kd, .int .i64 id, .int .i64 mt, .string dt]] u fun e u' => ∃ x y, e = .returned (.agg #[.int .i64 c2, .int .i64 r2, .string d2, .slice x m2 y]) ∧ Ints u' u'.heap.size (.slice x m2 y) l2 ∧ Below W.heap.size W u') :=
    fun u hu => (HA.out u (C4.out.trans (hu.mono C4.out.size))).mono fun e u' ⟨x, y, he, hI, hb⟩ => ⟨x, y, he, hI, hu.trans (hb.mono hu.size)⟩
  have XR : Hid (∀ u, Below W.heap.size W u → Calls Try.prog 17 #[.slice wa n wc, .agg #[.int .i64 cl, .int .i64 sq, .int .i64 kd, .int .i64 id, .int .i64 mt, .string dt]] u fun e u' => ∃ x y, e = .returned (.agg #[.int .i64 c2, .int .i64 r2, .string d2, .slice x m2 y]) ∧ Ints u' u'.heap.size (.slice x m2 y) l2 ∧ Below u.heap.size u u' ∧ Below W.heap.size W u') :=
    fun u hu => (HRA.out _ u (W4.out.on hu)).mono fun e u' ⟨x, y, he, hI, hb⟩ => ⟨x, y, he, hI, hb, hu.trans (hb.mono hu.size)⟩
  have XB : Hid (∀ x1 y1 x2 y2 u, Below W.heap.size W u → Ints u u.heap.size (.slice x1 m2 y1) l2 → Ints u u.heap.size (.slice x2 m2 y2) l2 → Calls Try.prog 15 #[.agg #[.int .i64 c2, .int .i64 r2, .string d2, .slice x1 m2 y1], .agg #[.int .i64 c2, .int .i64 r2, .string d2, .slice x2 m2 y2]] u fun e u' => e = .returned (.bool true) ∧ Below W.heap.size W u') :=
    fun x1 y1 x2 y2 u hu i1 i2 => (HSR.out _ _ c2 r2 d2 l2 u (.inr rfl) i1 i2).mono fun e u' ⟨he, hb⟩ => ⟨he, hu.trans (hb.mono hu.size)⟩
  have m0 := Below.refl W.heap.size W
  obtain ⟨_, ⟨q0, q1, q2, q3, q4, q5⟩, ⟨r0, r1, r2', r3⟩, ⟨s0, s1, s2, s3⟩⟩ := FX.out _ m0
  clear HV HF HD HRD HA HRA HVV HSR HT HN D4 W4 A4 J4 R4 E4 K4 S4 hi hz0 hz1 hz2
  go_region_held3 (fun u => Below W.heap.size W u ∧ (u.cell? ⟨w.heap.size, 0, none⟩ = some (.int .i64 cl) ∧ u.cell? ⟨w.heap.size, 1, none⟩ = some (.int .i64 sq) ∧ u.cell? ⟨w.heap.size, 2, none⟩ = some (.int .i64 kd) ∧ u.cell? ⟨w.heap.size, 3, none⟩ = some (.int .i64 id) ∧ u.cell? ⟨w.heap.size, 4, none⟩ = some (.int .i64 mt) ∧ u.cell? ⟨w.heap.size, 5, none⟩ = some (.string dt)) ∧
      (u.cell? ⟨w3.heap.size, 0, none⟩ = some (.int .i64 c) ∧ u.cell? ⟨w3.heap.size, 1, none⟩ = some (.int .i64 r) ∧ u.cell? ⟨w3.heap.size, 2, none⟩ = some (.string d) ∧ u.cell? ⟨w3.heap.size, 3, none⟩ = some (.slice o1 m p1)) ∧
      (u.cell? ⟨w4.heap.size, 0, none⟩ = some (.int .i64 c) ∧ u.cell? ⟨w4.heap.size, 1, none⟩ = some (.int .i64 r) ∧ u.cell? ⟨w4.heap.size, 2, none⟩ = some (.string d) ∧ u.cell? ⟨w4.heap.size, 3, none⟩ = some (.slice o2 m p2)))
    (first | assumption | (refine FX.out _ ?_; go_grown))
    (first
      | (go_at_call 11; (with_reducible refine (XT.out _ (by go_grown)).mono ?_); rintro e u1 ⟨rfl, m1⟩)
      | (go_at_call 14; (with_reducible refine (XV.out _ (by go_grown)).mono ?_); rintro e u1 ⟨rfl, m1⟩)
      | (go_at_call 14; (with_reducible refine (XL.out _ (by go_grown)).mono ?_); rintro e u1 ⟨rfl, m1⟩)
      | (go_at_call 15; (with_reducible refine (XS.out _ (by go_grown)).mono ?_); rintro e u1 ⟨rfl, m1⟩)
      | (go_at_call 16; (with_reducible refine (XA.out _ (by go_grown)).mono ?_); rintro e u1 ⟨x1, y1, rfl, i1, m1⟩; have I1 := Lib.hid i1; clear i1)
      | (go_at_call 17; (with_reducible refine (XR.out _ (by go_grown)).mono ?_); rintro e u2 ⟨x2, y2, rfl, i2, b2, m2'⟩; have I2 := Lib.hid i2; have I3 := Lib.hid ((I1.out.keep b2).mono b2.size); clear i2 b2)
      | (go_at_call 15; (with_reducible refine (XB.out _ _ _ _ _ (by go_grown) I3.out I2.out).mono ?_); rintro e u3 ⟨rfl, m3⟩))
  all_goals
    have CF := Lib.hid (C4.out.trans (m3.mono C4.out.size))
    clear FX XT XV XL XS XA XR XB C4 m0 m1 m2' m3 I1 I2 I3
    go_wp2
    go_returns
    exact ⟨rfl, CF.out⟩

theorem askV_len (L : List VerV) (kd mt : Int) : (askV L kd mt).list.length ≤ L.length := by
  unfold askV
  split
  · rw [rdV_list]; exact Nat.zero_le _
  split
  · rw [rdV_list]; exact Nat.zero_le _
  split
  · unfold histV
    split
    · exact Nat.zero_le _
    · show (signs L L.length).length ≤ _; rw [signs_length]; exact Nat.le_refl _
  · exact Nat.zero_le _
theorem doR_len (L : List VerV) (kd mt quota : Int) : (doR L kd mt quota).list.length ≤ L.length := by
  unfold doR
  split
  · split <;> exact Nat.zero_le _
  · exact askV_len L kd mt

theorem walk (v : Value) (L : List VerV) (cl sq kd id mt : Int) (dt : ByteArray) (quota : Int) (w : World) (hV : Vers w w.heap.size v L ∧ ∀ x ∈ L, x.data.size ≤ maxLen) (hd : dt.size ≤ maxLen) (_ : (Lit.int .i64 quota).wf = true) :
    Calls Try.prog 3 #[v, .agg #[.int .i64 cl, .int .i64 sq, .int .i64 kd, .int .i64 id, .int .i64 mt, .string dt], .int .i64 quota] w fun e w' => e = .returned (.bool true) ∧ Below w.heap.size w w' := by
  obtain ⟨hV, hs⟩ := hV
  obtain ⟨ao, cap, rfl⟩ := hV.shape
  have HF : ∀ R, R = decide (fewV L dt) → Hid (∀ u, Below w.heap.size w u → Calls Try.prog 10 #[.slice ao L.length cap, .agg #[.int .i64 cl, .int .i64 sq, .int .i64 kd, .int .i64 id, .int .i64 mt, .string dt]] u fun e w' => e = .returned (.bool R) ∧ Below u.heap.size u w') :=
    fun R hR u hu => few_r _ L cl sq kd id mt dt hd u (hV.on hu) hs R hR
  by_cases hf : fewV L dt
  case neg => exact notfew ao _ cap cl sq kd id mt dt quota w (HF false (decide_eq_false hf).symm)
  have h60 := hf.1
  obtain ⟨L', hL'⟩ : ∃ L', doL L kd mt dt quota = L' := ⟨_, rfl⟩
  obtain ⟨⟨c, r, d, l⟩, hR⟩ : ∃ x, doR L kd mt quota = x := ⟨_, rfl⟩
  obtain ⟨⟨c2, r2, d2, l2⟩, hA⟩ : ∃ x, askV L kd mt = x := ⟨_, rfl⟩
  have hl' : L'.length ≤ 61 := by rw [← hL']; have := doL_length L kd mt dt quota; omega
  have hl2 : l2.length ≤ 60 := by
    have h := askV_len L kd mt
    rw [hA] at h
    simp only at h
    omega
  have hl : l.length ≤ 60 := by
    have h := doR_len L kd mt quota
    rw [hR] at h
    simp only at h
    omega
  exact main ao L.length cap L L' L'.length cl sq kd id mt dt quota c r d l l.length c2 r2 d2 l2 l2.length w rfl h60 (fun u hu => hV.keep hu) (HF true (decide_eq_true hf).symm)
    (fun u hu => do_n _ L L' _ _ cl sq kd id mt dt quota c r d l _ hL' hR rfl rfl u (hV.on hu) (Nat.le_refl _) (by omega))
    (fun v u hv => (refdo_r v L L' _ cl sq kd id mt dt quota c r d l hL' hR u hv (Nat.le_refl _) (by omega)).mono fun _ _ h => h.n rfl rfl)
    (fun u hu => ask_n _ L _ cl sq kd id mt dt c2 r2 d2 l2 _ hA rfl u (hV.on hu) (Nat.le_refl _) (by omega))
    (fun v u hv => (refask_r v L _ cl sq kd id mt dt c2 r2 d2 l2 hA u hv (Nat.le_refl _) (by omega)).mono fun _ _ h => h.n rfl)
    (fun v1 v2 M u hM h1 h2 => by
      have h := versions_any v1 v2 M M _ u h1 h2 (Nat.le_refl _) (by rcases hM with rfl | rfl <;> omega)
      rwa [decide_eq_true rfl] at h)
    (fun v1 v2 cc rr dd M u hM h1 h2 => refsamereply_any cc rr cc rr dd dd v1 v2 M M _ u h1 h2 (Nat.le_refl _) (by rcases hM with rfl | rfl <;> omega) true (show _ = _ by simp))

set_option maxRecDepth 100000 in
theorem lifted (os : Os) (started : os.Started) (H : Type) (enc : TypeId × Value → H) :
    ReturnsInHanded {} Try.checked os 3 .any (Rows.chartDoesSpec.pre6 enc Try.prog Try.f3 Rows.chartDoesRow.domain false) (Rows.chartDoesSpec.post enc Try.prog Try.f3 false true false false) := by
  refine returnsInHanded_of_change (C := Try.checked) own started (by kernel_rfl) Try.func3
    (ChangeSpec.witness6 (enc := enc) (C := Try.checked) false ⟨#[], #[.slice none 0 0, .agg #[.int .i64 0, .int .i64 0, .int .i64 0, .int .i64 0, .int .i64 0, .string ByteArray.empty], .int .i64 0], []⟩ 8 (by kernel_rfl) (by kernel_rfl) (by kernel_rfl) (by kernel_rfl)) ?_
  intro W base args ds gs before hval0 hW hcnd _
  have hval : ∀ (j : Nat) t v, Try.f3.params[j]? = some t → args[j]? = some v → Value.okWide Try.prog W .any base t v := hval0
  have hW' := hW
  obtain ⟨p, q, hA0, hV, rfl, hfz, hnd⟩ := hW
  have hA : DataW.TrodAll enc Try.prog W 0 (fun _ => true) true Try.f3.params.toList args.toList ds p := hA0
  rw [Try.params3] at hA hval
  obtain ⟨v0, vs0, d0, ds0, p0, q0, hargs, rfl, rfl, h0, r0⟩ := trodAll_cons hA
  obtain ⟨v1, vs1, d1, ds1, p1, q1, rfl, rfl, rfl, h1, r1⟩ := trodAll_cons r0
  obtain ⟨v2, vs2, d2, ds2, p2, q2, rfl, rfl, rfl, h2, r2⟩ := trodAll_cons r1
  obtain ⟨rfl, rfl, rfl⟩ := trodAll_nil r2
  obtain rfl : args = #[v0, v1, v2] := by cases args; simp_all
  obtain ⟨rfl, rfl⟩ := trodVars_none hV
  obtain ⟨a0, len0, cap0, rfl⟩ := okWide_slice Try.underlying22 (hval 0 22 v0 rfl rfl)
  have k0 := h0
  have lt0 : ∀ x ∈ p0, x.block < W.heap.size := by obtain ⟨m, hm⟩ := k0; exact DataW.trod_lt m _ _ _ hm
  obtain ⟨l0, w0⟩ := vers_open h0
  have k1 := h1
  have lt1 : ∀ x ∈ p1, x.block < W.heap.size := by obtain ⟨m, hm⟩ := k1; exact DataW.trod_lt m _ _ _ hm
  obtain ⟨⟨xa1, xb1, xc1, xd1, xe1, xf1⟩, w1, rfl⟩ := req_open (hval 1 24 v1 rfl rfl) h1
  obtain ⟨a2, rfl, rfl, rfl, w2⟩ := open_int Try.underlying3 (hval 2 3 v2 rfl rfl) h2
  clear hA0 hval0
  refine (walk (.slice a0 len0 cap0) l0 xa1 xb1 xc1 xd1 xe1 xf1 a2 W w0 w1 w2).mono fun e W' ⟨he, bel⟩ => ?_
  subst he
  exact ⟨_, rfl, _, _, _, [], _, [], hW', trodAll_mk1 (shut_bool Try.underlying4 _), (trodAll_cons_mk (Below.trod laidOut (by kernel_rfl) (of_decide_eq_true (by kernel_rfl)) k0 bel lt0) (trodAll_cons_mk (Below.trod laidOut (by kernel_rfl) (of_decide_eq_true (by kernel_rfl)) k1 bel lt1) (trodAll_cons_mk (shut_int Try.underlying3 w2) trodAll_mk0))), rfl, bel.frame _, fun h => by cases h⟩

theorem over : Rows.chartDoesRow.holds Try.pinned (OpenSpec.ofChange Rows.chartDoesSpec) :=
  OpenClaim.holds_of_wide 3 Try.f3 rfl rfl rfl rfl rfl rfl rfl ⟨rfl, rfl, rfl, rfl, rfl⟩ rfl rfl rfl rfl rfl (by kernel_rfl) Try.func3 (by kernel_rfl)
    (of_decide_eq_true (by kernel_rfl)) (by unfold Func.isWrapper; first | (rw [if_pos (by decide +kernel)]; kernel_rfl) | (rw [if_neg (by decide +kernel)]; exact ⟨rfl, rfl⟩))
    (fun os started H enc _ => lifted os started H enc)
end Go.Proofs.Ytichojlijhnlpaa.ChartDoes

namespace Go.Proofs.Ytichojlijhnlpaa
theorem chartDoes_holds : Rows.ChartDoesSaid := ChartDoes.over
#print axioms chartDoes_holds
end Go.Proofs.Ytichojlijhnlpaa
