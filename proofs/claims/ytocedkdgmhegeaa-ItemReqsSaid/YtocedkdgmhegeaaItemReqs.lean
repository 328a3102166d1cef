/-
  Which requests may be, and their bytes, is what the document says (2.1, 2.2), as ItemReqs says: for any request, any bytes (at most 300). No condition.
-/
import Derived.Test.YtocedkdgmhegeaaItemBoth
import Derived.Test.YtocedkdgmhegeaaRegion
namespace Go.Proofs.Ytocedkdgmhegeaa.ItemReqs
open Go.ChangeShapes Go.WideShapes Go.ChangeAt Go.RowKit

/-- The request's block stands, and the bytes that were put; nothing below has turned. -/
structure PX (w v : World) (cl sq kd id mt : Int) (dt : ByteArray) (B : Nat) (x : Value) (bs : List UInt8) : Prop where
  q : ReqB v w.heap.size cl sq kd id mt dt
  x : Byt v B x bs
  bel : Below w.heap.size w v
  hB : B ≤ v.heap.size
theorem PX.step {w u v : World} {cl sq kd id mt : Int} {dt : ByteArray} {B : Nat} {x : Value} {bs : List UInt8} (h : PX w u cl sq kd id mt dt B x bs) (hb : Below u.heap.size u v) : PX w v cl sq kd id mt dt B x bs :=
  ⟨h.q.keep hb h.q.lt, h.x.keep (hb.mono h.hB), h.bel.trans (hb.mono h.bel.size), Nat.le_trans h.hB hb.size⟩
theorem PX.conv {w v : World} {cl sq kd id mt : Int} {dt : ByteArray} {B : Nat} {x : Value} {bs : List UInt8} (h : PX w v cl sq kd id mt dt B x bs) : (convert 24 9 x).run Try.prog v = .ok (.string (txt bs)) v := run_conv_byt h.x

set_option maxHeartbeats 2000000 in
set_option maxRecDepth 100000 in
theorem many (cl sq kd id mt : Int) (dt : ByteArray) (v : Value) (l : List UInt8) (w : World) (hb : Byt w w.heap.size v l) (hd : dt.size ≤ 9223372036854775807) (hf : ¬ dt.size ≤ 300) :
    Calls Try.prog 3 #[.agg #[.int .i64 cl, .int .i64 sq, .int .i64 kd, .int .i64 id, .int .i64 mt, .string dt], v] w fun e w' => e = .returned (.bool true) ∧ Below w.heap.size w w' := by
  have HT := Lib.hid (fun u => told2_any u)
  have HF := Lib.hid (fun u => few_any cl sq kd id mt dt hd false (show _ = _ from (decide_eq_false hf).symm) u)
  obtain ⟨a, c, rfl⟩ := byt_slice hb
  clear hf hb
  go_enter Try.func3, Try.ntmps3
  go_wp2_with fail
  refine (HF.out _).mono ?_
  rintro e w1 ⟨rfl, B1⟩
  have D1 : Hid (ReqB w1 w.heap.size cl sq kd id mt dt) := (ReqB.fresh w _ _ _ _ _ _ 23).keep B1 (by simp)
  have C1 : Hid (Below w.heap.size w w1) := ((Below.refl _ w).alloc (Nat.le_refl _) _).trans (B1.mono (by simp))
  clear B1
  go_wp2_with fail
  refine (HT.out _).mono ?_
  rintro e w2 ⟨rfl, B2⟩
  have C2 : Hid (Below w.heap.size w w2) := C1.out.trans (B2.mono C1.out.size)
  clear B2
  go_wp2
  go_returns
  exact ⟨rfl, C2.out⟩

set_option maxHeartbeats 2000000 in
set_option maxRecDepth 100000 in
theorem long (cl sq kd id mt : Int) (dt : ByteArray) (v : Value) (l : List UInt8) (w : World) (hb : Byt w w.heap.size v l) (hd : dt.size ≤ 9223372036854775807) (hf : dt.size ≤ 300) (hl : ¬ l.length ≤ 300) :
    Calls Try.prog 3 #[.agg #[.int .i64 cl, .int .i64 sq, .int .i64 kd, .int .i64 id, .int .i64 mt, .string dt], v] w fun e w' => e = .returned (.bool true) ∧ Below w.heap.size w w' := by
  have HT := Lib.hid (fun u => told2_any u)
  have HF := Lib.hid (fun u => few_any cl sq kd id mt dt hd true (show _ = _ from (decide_eq_true hf).symm) u)
  obtain ⟨a, c, rfl⟩ := byt_slice hb
  obtain ⟨n, hn⟩ : ∃ n, l.length = n := ⟨_, rfl⟩
  rw [hn] at hl ⊢
  have hl2 : 300 < n := by omega
  clear hf hb hn hl
  go_enter Try.func3, Try.ntmps3
  go_wp2_with fail
  refine (HF.out _).mono ?_
  rintro e w1 ⟨rfl, B1⟩
  have D1 : Hid (ReqB w1 w.heap.size cl sq kd id mt dt) := (ReqB.fresh w _ _ _ _ _ _ 23).keep B1 (by simp)
  have C1 : Hid (Below w.heap.size w w1) := ((Below.refl _ w).alloc (Nat.le_refl _) _).trans (B1.mono (by simp))
  clear B1
  go_wp2_with fail
  refine (HT.out _).mono ?_
  rintro e w2 ⟨rfl, B2⟩
  have C2 : Hid (Below w.heap.size w w2) := C1.out.trans (B2.mono C1.out.size)
  clear B2
  go_wp2
  go_returns
  exact ⟨rfl, C2.out⟩

set_option maxHeartbeats 2000000 in
set_option maxRecDepth 100000 in
theorem good (cl sq kd id mt : Nat) (dt : ByteArray) (v : Value) (l : List UInt8) (w : World) (hb : Byt w w.heap.size v l) (hd : dt.size ≤ 9223372036854775807) (hf : dt.size ≤ 300) (hl : l.length ≤ 300) (hm : ReqV.may ⟨cl, sq, kd, id, mt, dt⟩) :
    Calls Try.prog 3 #[.agg #[.int .i64 cl, .int .i64 sq, .int .i64 kd, .int .i64 id, .int .i64 mt, .string dt], v] w fun e w' => e = .returned (.bool true) ∧ Below w.heap.size w w' := by
  have HT := Lib.hid (fun u => told2_any u)
  have HF := Lib.hid (fun u => few_any cl sq kd id mt dt hd true (show _ = _ from (decide_eq_true hf).symm) u)
  have HMP := Lib.hid (fun u => mayreq_r cl sq kd id mt dt hd true (show _ = _ from (decide_eq_true hm).symm) u)
  have HMR := Lib.hid (fun u => refmay_r cl sq kd id mt dt hd true (show _ = _ from (decide_eq_true hm).symm) u)
  obtain ⟨R, hR⟩ : ∃ R, R = decide (1 ≤ (kd : Int) ∧ (kd : Int) ≤ 3) := ⟨_, rfl⟩
  have HWP : Hid (∀ u, Calls Try.prog 14 #[.agg #[.int .i64 cl, .int .i64 sq, .int .i64 kd, .int .i64 id, .int .i64 mt, .string dt]] u fun e w' => e = .returned (.bool R) ∧ Below u.heap.size u w') := fun u => by rw [hR]; exact writes_any cl sq kd id mt dt u
  have HWR : Hid (∀ u, Calls Try.prog 15 #[.agg #[.int .i64 cl, .int .i64 sq, .int .i64 kd, .int .i64 id, .int .i64 mt, .string dt]] u fun e w' => e = .returned (.bool R) ∧ Below u.heap.size u w') := fun u => refwrites_r cl sq kd id mt dt R (show _ = _ from hR) u
  obtain ⟨a1, a2, a3, a4, a5, S, err, hgp, hgr⟩ := both_get l (by omega)
  have HGP := Lib.hid hgp
  have HGR := Lib.hid hgr
  obtain ⟨a, c, rfl⟩ := byt_slice hb
  obtain ⟨n, hn⟩ : ∃ n, l.length = n := ⟨_, rfl⟩
  have HB : Hid (Byt w w.heap.size (.slice a n c) l) := by rw [← hn]; exact hb
  rw [hn] at hl ⊢
  have HP := Lib.hid (fun u => putreq_yes cl sq kd id mt dt hm u)
  have HPR := Lib.hid (fun u => refputreq_any cl sq kd id mt dt hm u)
  obtain ⟨bs, hbs⟩ : ∃ bs, bs = reqBytes cl sq kd id mt dt.data.toList := ⟨_, rfl⟩
  rw [← hbs] at HP HPR
  obtain ⟨X, hX⟩ : ∃ X, X = txt bs := ⟨_, rfl⟩
  rw [← hX] at HPR
  have HXE := Lib.hid hX
  clear hbs hX
  clear hf hb hn hm hR hgp hgr
  go_enter Try.func3, Try.ntmps3
  go_wp2_with fail
  refine (HF.out _).mono ?_
  rintro e w1 ⟨rfl, B1⟩
  have D1 : Hid (ReqB w1 w.heap.size cl sq kd id mt dt) := (ReqB.fresh w _ _ _ _ _ _ 23).keep B1 (by simp)
  have C1 : Hid (Below w.heap.size w w1) := ((Below.refl _ w).alloc (Nat.le_refl _) _).trans (B1.mono (by simp))
  clear B1
  obtain ⟨c0, c1, c2, c3, c4, c5⟩ := D1.out.cells
  go_wp2_with fail
  refine (HMR.out _).mono ?_
  rintro e w2 ⟨rfl, B2⟩
  have D2 : Hid (ReqB w2 w.heap.size cl sq kd id mt dt) := D1.out.keep B2 D1.out.lt
  have C2 : Hid (Below w.heap.size w w2) := C1.out.trans (B2.mono C1.out.size)
  clear B2 c0 c1 c2 c3 c4 c5
  obtain ⟨c0, c1, c2, c3, c4, c5⟩ := D2.out.cells
  go_wp2_with fail
  refine (HP.out _).mono ?_
  rintro e w3 ⟨vx, rfl, OX, B3⟩
  have D3 : Hid (ReqB w3 w.heap.size cl sq kd id mt dt) := D2.out.keep B3 D2.out.lt
  have C3 : Hid (Below w.heap.size w w3) := C2.out.trans (B3.mono C2.out.size)
  have YX := Lib.hid (byt_own OX (Nat.le_refl _))
  obtain ⟨ax, cx, rfl⟩ := own_shape OX
  clear B3 OX c0 c1 c2 c3 c4 c5
  have P0 : PX w w3.drew cl sq kd id mt dt w3.heap.size (.slice ax bs.length cx) bs := ⟨D3.out, YX.out, C3.out.drew, Nat.le_refl _⟩
  have FX : Hid (∀ u, PX w u cl sq kd id mt dt w3.heap.size (.slice ax bs.length cx) bs → u.cell? ⟨w.heap.size, 0, none⟩ = some (.int .i64 cl) ∧ u.cell? ⟨w.heap.size, 1, none⟩ = some (.int .i64 sq) ∧ u.cell? ⟨w.heap.size, 2, none⟩ = some (.int .i64 kd) ∧ u.cell? ⟨w.heap.size, 3, none⟩ = some (.int .i64 id) ∧ u.cell? ⟨w.heap.size, 4, none⟩ = some (.int .i64 mt) ∧ u.cell? ⟨w.heap.size, 5, none⟩ = some (.string dt) ∧ (convert 24 9 (.slice ax bs.length cx)).run Try.prog u = .ok (.string X) u) := fun u hu =>
    ⟨hu.q.cells.1, hu.q.cells.2.1, hu.q.cells.2.2.1, hu.q.cells.2.2.2.1, hu.q.cells.2.2.2.2.1, hu.q.cells.2.2.2.2.2, by rw [HXE.out]; exact hu.conv⟩
  go_wp2_with fail
  refine region_quiet (fun v => PX w v cl sq kd id mt dt w3.heap.size (.slice ax bs.length cx) bs) (by kernel_rfl) (by kernel_rfl) P0 ?_
  repeat (first
    | go_big_quiet_skip
    | (go_big_quiet_want
       (first
        | (refine quiet_run (v := ?_) ?_ ?_; rotate_left; (intro u hu; obtain ⟨c0, c1, c2, c3, c4, c5, k0⟩ := FX.out u hu; go_simp <;> with_reducible rfl); simp only [Act.put, List.setIfInBounds_toArray, List.set_cons_zero, List.set_cons_succ]; go_big_quiet_on)
        | (refine quiet_enter 13 _ ?_ (fun u hu => (HMP.out u).mono fun e u' ⟨he, hb⟩ => ⟨he, hu.step hb⟩) ?_; (focus (intro u; first | (go_simp; done) | (go_simp; with_reducible rfl))); simp only [Act.put, List.setIfInBounds_toArray, List.set_cons_zero, List.set_cons_succ]; go_big_quiet_on)
        | (refine quiet_enter 14 _ ?_ (fun u hu => (HWP.out u).mono fun e u' ⟨he, hb⟩ => ⟨he, hu.step hb⟩) ?_; (focus (intro u; first | (go_simp; done) | (go_simp; with_reducible rfl))); simp only [Act.put, List.setIfInBounds_toArray, List.set_cons_zero, List.set_cons_succ]; go_big_quiet_on)
        | (refine quiet_enter 15 _ ?_ (fun u hu => (HWR.out u).mono fun e u' ⟨he, hb⟩ => ⟨he, hu.step hb⟩) ?_; (focus (intro u; first | (go_simp; done) | (go_simp; with_reducible rfl))); simp only [Act.put, List.setIfInBounds_toArray, List.set_cons_zero, List.set_cons_succ]; go_big_quiet_on)
        | (refine quiet_enter 16 _ ?_ (fun u hu => (HPR.out u).mono fun e u' ⟨he, hb⟩ => ⟨he, hu.step hb⟩) ?_; (focus (intro u; first | (go_simp; done) | (go_simp; with_reducible rfl))); simp only [Act.put, List.setIfInBounds_toArray, List.set_cons_zero, List.set_cons_succ]; go_big_quiet_on))))
  refine wpQuiet_nil ?_
  intro w4 h4
  have C4 : Hid (Below w.heap.size w w4) := h4.bel
  have YB : Hid (Byt w4 w4.heap.size (.slice a n c) l) := (HB.out.keep C4.out).mono C4.out.size
  clear P0 FX h4
  go_wp2_with fail
  refine (HGP.out _ _ YB.out).mono ?_
  rintro e w5 ⟨rfl, B5⟩
  have C5 : Hid (Below w.heap.size w w5) := C4.out.trans (B5.mono C4.out.size)
  have YB5 : Hid (∀ o, Byt (w5.alloc o) (w5.alloc o).heap.size (.slice a n c) l) := fun o => ((YB.out.keep B5).mono (B5.size)).keep ((Below.refl _ _).alloc (Nat.le_refl _) _) |>.mono (by simp)
  have KB : Hid (∀ o, (convert 24 9 (.slice a n c)).run Try.prog (w5.alloc o) = .ok (.string (txt l)) (w5.alloc o)) := fun o => run_conv_byt (YB5.out o)
  have kb := KB.out (.cells #[.int .i64 a1, .int .i64 a2, .int .i64 a3, .int .i64 a4, .int .i64 a5, .string S] 23)
  clear B5
  go_wp2_with fail
  refine (HGR.out _).mono ?_
  rintro e w6 ⟨rfl, B6⟩
  have Y6 : Hid (ReqB w6 w5.heap.size a1 a2 a3 a4 a5 S) := (ReqB.fresh w5 _ _ _ _ _ _ 23).keep B6 (by simp)
  have C6 : Hid (Below w.heap.size w w6) := (C5.out.alloc C5.out.size _).trans (B6.mono (by have := C5.out.size; simp; omega))
  clear B6 kb
  go_wp2_with fail
  refine (HT.out _).mono ?_
  rintro e w7 ⟨rfl, B7⟩
  have Z7 : Hid (ReqB w7 w6.heap.size a1 a2 a3 a4 a5 S) := (ReqB.fresh w6 _ _ _ _ _ _ 23).keep B7 (by simp)
  have Y7 : Hid (ReqB w7 w5.heap.size a1 a2 a3 a4 a5 S) := (Y6.out.keep ((Below.refl _ _).alloc (Nat.le_refl _) _) Y6.out.lt).keep B7 (by have := Y6.out.lt; simp; omega)
  have C7 : Hid (Below w.heap.size w w7) := (C6.out.alloc C6.out.size _).trans (B7.mono (by have := C6.out.size; simp; omega))
  clear B7
  obtain ⟨c0, c1, c2, c3, c4, c5⟩ := Y7.out.cells
  obtain ⟨d0, d1, d2, d3, d4, d5⟩ := Z7.out.cells
  go_wp2
  go_returns
  exact ⟨rfl, C7.out⟩

set_option maxHeartbeats 2000000 in
set_option maxRecDepth 100000 in
theorem wrong (cl sq kd id mt : Int) (dt : ByteArray) (v : Value) (l : List UInt8) (w : World) (hb : Byt w w.heap.size v l) (hd : dt.size ≤ 9223372036854775807) (hf : dt.size ≤ 300) (hl : l.length ≤ 300) (hm : ¬ ReqV.may ⟨cl, sq, kd, id, mt, dt⟩) :
    Calls Try.prog 3 #[.agg #[.int .i64 cl, .int .i64 sq, .int .i64 kd, .int .i64 id, .int .i64 mt, .string dt], v] w fun e w' => e = .returned (.bool true) ∧ Below w.heap.size w w' := by
  have HT := Lib.hid (fun u => told2_any u)
  have HF := Lib.hid (fun u => few_any cl sq kd id mt dt hd true (show _ = _ from (decide_eq_true hf).symm) u)
  have HMP := Lib.hid (fun u => mayreq_r cl sq kd id mt dt hd false (show _ = _ from (decide_eq_false hm).symm) u)
  have HMR := Lib.hid (fun u => refmay_r cl sq kd id mt dt hd false (show _ = _ from (decide_eq_false hm).symm) u)
  obtain ⟨R, hR⟩ : ∃ R, R = decide (1 ≤ (kd : Int) ∧ (kd : Int) ≤ 3) := ⟨_, rfl⟩
  have HWP : Hid (∀ u, Calls Try.prog 14 #[.agg #[.int .i64 cl, .int .i64 sq, .int .i64 kd, .int .i64 id, .int .i64 mt, .string dt]] u fun e w' => e = .returned (.bool R) ∧ Below u.heap.size u w') := fun u => by rw [hR]; exact writes_any cl sq kd id mt dt u
  have HWR : Hid (∀ u, Calls Try.prog 15 #[.agg #[.int .i64 cl, .int .i64 sq, .int .i64 kd, .int .i64 id, .int .i64 mt, .string dt]] u fun e w' => e = .returned (.bool R) ∧ Below u.heap.size u w') := fun u => refwrites_r cl sq kd id mt dt R (show _ = _ from hR) u
  obtain ⟨a1, a2, a3, a4, a5, S, err, hgp, hgr⟩ := both_get l (by omega)
  have HGP := Lib.hid hgp
  have HGR := Lib.hid hgr
  obtain ⟨a, c, rfl⟩ := byt_slice hb
  obtain ⟨n, hn⟩ : ∃ n, l.length = n := ⟨_, rfl⟩
  have HB : Hid (Byt w w.heap.size (.slice a n c) l) := by rw [← hn]; exact hb
  rw [hn] at hl ⊢
  have HP := Lib.hid (fun u => putreq_no cl sq kd id mt dt hd hm u)
  clear hf hb hn hm hR hgp hgr
  go_enter Try.func3, Try.ntmps3
  go_wp2_with fail
  refine (HF.out _).mono ?_
  rintro e w1 ⟨rfl, B1⟩
  have D1 : Hid (ReqB w1 w.heap.size cl sq kd id mt dt) := (ReqB.fresh w _ _ _ _ _ _ 23).keep B1 (by simp)
  have C1 : Hid (Below w.heap.size w w1) := ((Below.refl _ w).alloc (Nat.le_refl _) _).trans (B1.mono (by simp))
  clear B1
  obtain ⟨c0, c1, c2, c3, c4, c5⟩ := D1.out.cells
  go_wp2_with fail
  refine (HMR.out _).mono ?_
  rintro e w2 ⟨rfl, B2⟩
  have D2 : Hid (ReqB w2 w.heap.size cl sq kd id mt dt) := D1.out.keep B2 D1.out.lt
  have C2 : Hid (Below w.heap.size w w2) := C1.out.trans (B2.mono C1.out.size)
  clear B2 c0 c1 c2 c3 c4 c5
  obtain ⟨c0, c1, c2, c3, c4, c5⟩ := D2.out.cells
  go_wp2_with fail
  refine (HP.out _).mono ?_
  rintro e w3 ⟨rfl, B3⟩
  have D3 : Hid (ReqB w3 w.heap.size cl sq kd id mt dt) := D2.out.keep B3 D2.out.lt
  have C3 : Hid (Below w.heap.size w w3) := C2.out.trans (B3.mono C2.out.size)
  clear B3 c0 c1 c2 c3 c4 c5
  have P0 : PQ w w3.drew cl sq kd id mt dt := ⟨D3.out, C3.out.drew⟩
  have FX : Hid (∀ u, PQ w u cl sq kd id mt dt → u.cell? ⟨w.heap.size, 0, none⟩ = some (.int .i64 cl) ∧ u.cell? ⟨w.heap.size, 1, none⟩ = some (.int .i64 sq) ∧ u.cell? ⟨w.heap.size, 2, none⟩ = some (.int .i64 kd) ∧ u.cell? ⟨w.heap.size, 3, none⟩ = some (.int .i64 id) ∧ u.cell? ⟨w.heap.size, 4, none⟩ = some (.int .i64 mt) ∧ u.cell? ⟨w.heap.size, 5, none⟩ = some (.string dt)) := fun u hu => hu.1.cells
  go_wp2_with fail
  refine region_quiet (fun v => PQ w v cl sq kd id mt dt) (by kernel_rfl) (by kernel_rfl) P0 ?_
  repeat (first
    | go_big_quiet_skip
    | (go_big_quiet_want
       (first
        | (refine quiet_run (v := ?_) ?_ ?_; rotate_left; (intro u hu; obtain ⟨c0, c1, c2, c3, c4, c5⟩ := FX.out u hu; go_simp <;> with_reducible rfl); simp only [Act.put, List.setIfInBounds_toArray, List.set_cons_zero, List.set_cons_succ]; go_big_quiet_on)
        | (refine quiet_enter 13 _ ?_ (fun u hu => (HMP.out u).mono fun e u' ⟨he, hb⟩ => ⟨he, hu.step hb⟩) ?_; (focus (intro u; first | (go_simp; done) | (go_simp; with_reducible rfl))); simp only [Act.put, List.setIfInBounds_toArray, List.set_cons_zero, List.set_cons_succ]; go_big_quiet_on)
        | (refine quiet_enter 14 _ ?_ (fun u hu => (HWP.out u).mono fun e u' ⟨he, hb⟩ => ⟨he, hu.step hb⟩) ?_; (focus (intro u; first | (go_simp; done) | (go_simp; with_reducible rfl))); simp only [Act.put, List.setIfInBounds_toArray, List.set_cons_zero, List.set_cons_succ]; go_big_quiet_on)
        | (refine quiet_enter 15 _ ?_ (fun u hu => (HWR.out u).mono fun e u' ⟨he, hb⟩ => ⟨he, hu.step hb⟩) ?_; (focus (intro u; first | (go_simp; done) | (go_simp; with_reducible rfl))); simp only [Act.put, List.setIfInBounds_toArray, List.set_cons_zero, List.set_cons_succ]; go_big_quiet_on))))
  refine wpQuiet_nil ?_
  intro w4 h4
  have C4 : Hid (Below w.heap.size w w4) := h4.2
  have YB : Hid (Byt w4 w4.heap.size (.slice a n c) l) := (HB.out.keep C4.out).mono C4.out.size
  clear P0 FX h4
  go_wp2_with fail
  refine (HGP.out _ _ YB.out).mono ?_
  rintro e w5 ⟨rfl, B5⟩
  have C5 : Hid (Below w.heap.size w w5) := C4.out.trans (B5.mono C4.out.size)
  have YB5 : Hid (∀ o, Byt (w5.alloc o) (w5.alloc o).heap.size (.slice a n c) l) := fun o => ((YB.out.keep B5).mono (B5.size)).keep ((Below.refl _ _).alloc (Nat.le_refl _) _) |>.mono (by simp)
  have KB : Hid (∀ o, (convert 24 9 (.slice a n c)).run Try.prog (w5.alloc o) = .ok (.string (txt l)) (w5.alloc o)) := fun o => run_conv_byt (YB5.out o)
  have kb := KB.out (.cells #[.int .i64 a1, .int .i64 a2, .int .i64 a3, .int .i64 a4, .int .i64 a5, .string S] 23)
  clear B5
  go_wp2_with fail
  refine (HGR.out _).mono ?_
  rintro e w6 ⟨rfl, B6⟩
  have Y6 : Hid (ReqB w6 w5.heap.size a1 a2 a3 a4 a5 S) := (ReqB.fresh w5 _ _ _ _ _ _ 23).keep B6 (by simp)
  have C6 : Hid (Below w.heap.size w w6) := (C5.out.alloc C5.out.size _).trans (B6.mono (by have := C5.out.size; simp; omega))
  clear B6 kb
  go_wp2_with fail
  refine (HT.out _).mono ?_
  rintro e w7 ⟨rfl, B7⟩
  have Z7 : Hid (ReqB w7 w6.heap.size a1 a2 a3 a4 a5 S) := (ReqB.fresh w6 _ _ _ _ _ _ 23).keep B7 (by simp)
  have Y7 : Hid (ReqB w7 w5.heap.size a1 a2 a3 a4 a5 S) := (Y6.out.keep ((Below.refl _ _).alloc (Nat.le_refl _) _) Y6.out.lt).keep B7 (by have := Y6.out.lt; simp; omega)
  have C7 : Hid (Below w.heap.size w w7) := (C6.out.alloc C6.out.size _).trans (B7.mono (by have := C6.out.size; simp; omega))
  clear B7
  obtain ⟨c0, c1, c2, c3, c4, c5⟩ := Y7.out.cells
  obtain ⟨d0, d1, d2, d3, d4, d5⟩ := Z7.out.cells
  go_wp2
  go_returns
  exact ⟨rfl, C7.out⟩

theorem walk (cl sq kd id mt : Int) (dt : ByteArray) (v : Value) (l : List UInt8) (w : World) (hd : dt.size ≤ maxLen) (hb : Byt w w.heap.size v l) :
    Calls Try.prog 3 #[.agg #[.int .i64 cl, .int .i64 sq, .int .i64 kd, .int .i64 id, .int .i64 mt, .string dt], v] w fun e w' => e = .returned (.bool true) ∧ Below w.heap.size w w' := by
  unfold maxLen at hd
  by_cases hf : dt.size ≤ 300
  case neg => exact many cl sq kd id mt dt v l w hb hd hf
  by_cases hl : l.length ≤ 300
  case neg => exact long cl sq kd id mt dt v l w hb hd hf hl
  by_cases hm : ReqV.may ⟨cl, sq, kd, id, mt, dt⟩
  case neg => exact wrong cl sq kd id mt dt v l w hb hd hf hl hm
  have hm' := hm
  simp only [ReqV.may] at hm'
  obtain ⟨a1, rfl⟩ : ∃ n : Nat, cl = n := ⟨cl.toNat, by omega⟩
  obtain ⟨a2, rfl⟩ : ∃ n : Nat, sq = n := ⟨sq.toNat, by omega⟩
  obtain ⟨a3, rfl⟩ : ∃ n : Nat, kd = n := ⟨kd.toNat, by omega⟩
  obtain ⟨a4, rfl⟩ : ∃ n : Nat, id = n := ⟨id.toNat, by omega⟩
  obtain ⟨a5, rfl⟩ : ∃ n : Nat, mt = n := ⟨mt.toNat, by omega⟩
  exact good a1 a2 a3 a4 a5 dt v l w hb hd hf hl hm

set_option maxRecDepth 100000 in
theorem lifted (os : Os) (started : os.Started) (H : Type) (enc : TypeId × Value → H) :
    ReturnsInHanded {} Try.checked os 3 .any (Rows.itemReqsSpec.pre6 enc Try.prog Try.f3 Rows.itemReqsRow.domain false) (Rows.itemReqsSpec.post enc Try.prog Try.f3 false true false false) := by
  refine returnsInHanded_of_change (C := Try.checked) own started (by kernel_rfl) Try.func3
    (ChangeSpec.witness6 (enc := enc) (C := Try.checked) false ⟨#[], #[.agg #[.int .i64 0, .int .i64 0, .int .i64 0, .int .i64 0, .int .i64 0, .string ByteArray.empty], .slice none 0 0], []⟩ 8 (by kernel_rfl) (by kernel_rfl) (by kernel_rfl) (by kernel_rfl)) ?_
  intro W base args ds gs before hval0 hW hcnd _
  have hval : ∀ (j : Nat) t v, Try.f3.params[j]? = some t → args[j]? = some v → Value.okWide Try.prog W .any base t v := hval0
  have hW' := hW
  obtain ⟨p, q, hA0, hV, rfl, hfz, hnd⟩ := hW
  have hA : DataW.TrodAll enc Try.prog W 0 (fun _ => true) true Try.f3.params.toList args.toList ds p := hA0
  rw [Try.params3] at hA hval
  obtain ⟨v0, vs0, d0, ds0, p0, q0, hargs, rfl, rfl, h0, r0⟩ := trodAll_cons hA
  obtain ⟨v1, vs1, d1, ds1, p1, q1, rfl, rfl, rfl, h1, r1⟩ := trodAll_cons r0
  obtain ⟨rfl, rfl, rfl⟩ := trodAll_nil r1
  obtain rfl : args = #[v0, v1] := by cases args; simp_all
  obtain ⟨rfl, rfl⟩ := trodVars_none hV
  have k0 := h0
  have lt0 : ∀ x ∈ p0, x.block < W.heap.size := by obtain ⟨m, hm⟩ := k0; exact DataW.trod_lt m _ _ _ hm
  obtain ⟨⟨xa0, xb0, xc0, xd0, xe0, xf0⟩, w0, rfl⟩ := req_open (hval 0 23 v0 rfl rfl) h0
  obtain ⟨a1, len1, cap1, rfl⟩ := okWide_slice Try.underlying24 (hval 1 24 v1 rfl rfl)
  have k1 := h1
  have lt1 : ∀ x ∈ p1, x.block < W.heap.size := by obtain ⟨m, hm⟩ := k1; exact DataW.trod_lt m _ _ _ hm
  obtain ⟨l1, w1⟩ : ∃ l, Byt W W.heap.size (.slice a1 len1 cap1) l := by
    obtain ⟨fuel, hf⟩ := h1
    rcases open_ints Try.underlying24 Try.underlying5 (by kernel_rfl) hf with ⟨hcs, _⟩ | ⟨x, l, c, zs, hcs, _, hl, hm, hz, _, hcell, hwz⟩
    · simp [Value.cells] at hcs
      obtain ⟨rfl, rfl, rfl⟩ := hcs
      exact ⟨[], Byt.none _ _⟩
    · simp [Value.cells] at hcs
      obtain ⟨rfl, rfl, rfl⟩ := hcs
      obtain ⟨l, _, hb⟩ := byt_row hl hm (by simpa using hz) hcell hwz
      exact ⟨l, hb⟩
  clear hA0 hval0
  refine (walk xa0 xb0 xc0 xd0 xe0 xf0 (.slice a1 len1 cap1) l1 W w0 w1).mono fun e W' ⟨he, bel⟩ => ?_
  subst he
  exact ⟨_, rfl, _, _, _, [], _, [], hW', trodAll_mk1 (shut_bool Try.underlying4 _), (trodAll_cons_mk (Below.trod laidOut (by kernel_rfl) (of_decide_eq_true (by kernel_rfl)) k0 bel lt0) (trodAll_cons_mk (Below.trod laidOut (by kernel_rfl) (of_decide_eq_true (by kernel_rfl)) k1 bel lt1) trodAll_mk0)), rfl, bel.frame _, fun h => by cases h⟩

theorem over : Rows.itemReqsRow.holds Try.pinned (OpenSpec.ofChange Rows.itemReqsSpec) :=
  OpenClaim.holds_of_wide 3 Try.f3 rfl rfl rfl rfl rfl rfl rfl ⟨rfl, rfl, rfl, rfl, rfl⟩ rfl rfl rfl rfl rfl (by kernel_rfl) Try.func3 (by kernel_rfl)
    (of_decide_eq_true (by kernel_rfl)) (by unfold Func.isWrapper; first | (rw [if_pos (by decide +kernel)]; kernel_rfl) | (rw [if_neg (by decide +kernel)]; exact ⟨rfl, rfl⟩))
    (fun os started H enc _ => lifted os started H enc)
end Go.Proofs.Ytocedkdgmhegeaa.ItemReqs

namespace Go.Proofs.Ytocedkdgmhegeaa
theorem itemReqs_holds : Rows.ItemReqsSaid := ItemReqs.over
#print axioms itemReqs_holds
end Go.Proofs.Ytocedkdgmhegeaa
