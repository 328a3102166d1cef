/-
  A ballot's bytes are what the document says, and come back (11.1), as BallotBytes says: for any ballot, any bytes behind (at most 20). No condition.
-/
import Derived.Test.YtejnphfjlphpiaaBallotArgs
import Derived.Test.YtejnphfjlphpiaaBallotT
import Derived.Test.YtejnphfjlphpiaaBallotP
namespace Go.Proofs.Ytejnphfjlphpiaa.BallotBytes
open Go.ChangeShapes Go.WideShapes Go.ChangeAt Go.RowKit

theorem bsrc {w : World} {B : Nat} {v : Value} {l : List UInt8} (h : Byt w B v l) : Src Try.prog 1 32 v l.length (Lib.byteCells l) w := by
  have h' := h
  obtain ⟨ao, cap, rfl, h1, h2, h3, h4⟩ := h
  cases ao with
  | none =>
    obtain rfl : l = [] := List.eq_nil_of_length_eq_zero (by have := h3 rfl; omega)
    rw [h3 rfl]
    exact Src.ofNil _ Try.underlying32 0
  | some a => exact byt_src h'

/-- What was put stands, and what was read. -/
structure PX (w v : World) (b1 b2 : Nat) (r n : Int) (B : Nat) (x : Value) (bs : List UInt8) : Prop where
  a : BalB v b1 r n
  b : BalB v b2 r n
  x : Byt v B x bs
  bel : Below w.heap.size w v
  hB : B ≤ v.heap.size
theorem PX.step {w u v : World} {b1 b2 : Nat} {r n : Int} {B : Nat} {x : Value} {bs : List UInt8} (h : PX w u b1 b2 r n B x bs) (hb : Below u.heap.size u v) : PX w v b1 b2 r n B x bs :=
  ⟨h.a.keep hb h.a.lt, h.b.keep hb h.b.lt, h.x.keep (hb.mono h.hB), h.bel.trans (hb.mono h.bel.size), Nat.le_trans h.hB hb.size⟩

set_option maxRecDepth 100000 in
set_option maxHeartbeats 4000000 in
theorem bad (r n : Int) (v : Value) (l : List UInt8) (w : World) (_ : Byt w w.heap.size v l) (hm : mayV r n = false) :
    Calls Try.prog 5 #[.agg #[.int .i64 r, .int .i64 n], v] w fun e w' => e = .returned (.bool true) ∧ Below w.heap.size w w' := by
  have HT := Lib.hid (fun u => told11_any u)
  have HM := Lib.hid (fun u => vmay_r r n u hm)
  clear hm
  go_enter Try.func5, Try.ntmps5
  go_wp2_with fail
  refine (HM.out _).mono ?_
  rintro e w1 ⟨rfl, B1⟩
  have C1 : Hid (Below w.heap.size w w1) := ((Below.refl _ w).alloc (Nat.le_refl _) _).trans (B1.mono (by simp))
  clear B1
  go_wp2_with fail
  refine (HT.out _).mono ?_
  rintro e w2 ⟨rfl, B2⟩
  have C2 : Hid (Below w.heap.size w w2) := C1.out.trans (B2.mono C1.out.size)
  clear B2
  go_wp2
  go_returns
  exact ⟨rfl, C2.out⟩

set_option maxRecDepth 100000 in
set_option maxHeartbeats 4000000 in
theorem long (r n : Int) (v : Value) (l : List UInt8) (w : World) (hb : Byt w w.heap.size v l) (hm : mayV r n = true) (hl : 20 < l.length) :
    Calls Try.prog 5 #[.agg #[.int .i64 r, .int .i64 n], v] w fun e w' => e = .returned (.bool true) ∧ Below w.heap.size w w' := by
  have HT := Lib.hid (fun u => told11_any u)
  have HM := Lib.hid (fun u => vmay_r r n u hm)
  obtain ⟨a, c, rfl, _⟩ := id hb
  generalize l.length = L at hl ⊢
  clear hm hb
  go_enter Try.func5, Try.ntmps5
  go_wp2_with fail
  refine (HM.out _).mono ?_
  rintro e w1 ⟨rfl, B1⟩
  have C1 : Hid (Below w.heap.size w w1) := ((Below.refl _ w).alloc (Nat.le_refl _) _).trans (B1.mono (by simp))
  clear B1
  go_wp2_with fail
  refine (HT.out _).mono ?_
  rintro e w2 ⟨rfl, B2⟩
  have C2 : Hid (Below w.heap.size w w2) := C1.out.trans (B2.mono C1.out.size)
  clear B2
  go_wp2
  go_returns
  exact ⟨rfl, C2.out⟩

set_option maxRecDepth 100000 in
set_option maxHeartbeats 4000000 in
theorem good (r n : Nat) (v : Value) (l : List UInt8) (w : World) (hb : Byt w w.heap.size v l) (hr : r ≤ 1099511627776) (hn : n ≤ 4) (hl : l.length ≤ 20) :
    Calls Try.prog 5 #[.agg #[.int .i64 r, .int .i64 n], v] w fun e w' => e = .returned (.bool true) ∧ Below w.heap.size w w' := by
  obtain ⟨i0, hi, hz0, hz1, hz2⟩ := info_parts info_u8
  have hm : mayV (r : Int) (n : Int) = true := mayV_yes.2 (by omega)
  have HT := Lib.hid (fun u => told11_any u)
  have HM := Lib.hid (fun u => vmay_r r n u hm)
  have HR := Lib.hid (fun u => rvput_any r n u (by omega) (by omega))
  have HP := Lib.hid (fun g u (hu : Wrt u g []) => vput_any g r n [] u (by omega) (by omega) hu (by simp))
  have HG := Lib.hid (getBal_put r n hr hn l)
  obtain ⟨bs, hbs⟩ : ∃ bs, bs = balBytes r n := ⟨_, rfl⟩
  have hlen := balBytes_len (r := r) (n := n) (by omega) (by omega)
  rw [← hbs] at HR HP HG hlen
  have hpos : 0 < bs.length := by
    rw [hbs, balBytes, List.length_append]
    have := Lib.uvarint_pos r
    omega
  obtain ⟨N, hN⟩ : ∃ N, bs.length = N := ⟨_, rfl⟩
  have HN := Lib.hid hN
  obtain ⟨X, hX⟩ : ∃ X, X = txt bs := ⟨_, rfl⟩
  rw [← hX] at HR
  have HXE := Lib.hid hX
  rw [hN] at hlen hpos
  obtain ⟨a, c, rfl, _⟩ := id hb
  obtain ⟨L, hL⟩ : ∃ L, l.length = L := ⟨_, rfl⟩
  have HL := Lib.hid hL
  rw [hL] at hb hl ⊢
  have HB := Lib.hid hb
  have HE : Hid (rEnd (some l) = 0 ∧ L = 0 ∨ rEnd (some l) = 9 ∧ 0 < L) := by
    cases l with
    | nil => exact .inl ⟨rfl, hL.symm⟩
    | cons x y => exact .inr ⟨rfl, by rw [← hL]; simp⟩
  clear hr hn hm hb hbs hN hX hL
  go_enter Try.func5, Try.ntmps5
  go_wp2_with fail
  refine (HM.out _).mono ?_
  rintro e w1 ⟨rfl, B1⟩
  have D1 : Hid (BalB w1 w.heap.size r n) := (BalB.fresh w _ _).keep B1 (by simp)
  have C1 : Hid (Below w.heap.size w w1) := ((Below.refl _ w).alloc (Nat.le_refl _) _).trans (B1.mono (by simp))
  obtain ⟨c0, c1, _, _⟩ := (D1.out.alloc (.cells #[.slice none 0 0] 34)).cells
  have l1 := D1.out.lt
  clear B1
  go_wp2_with fail
  refine (HP.out _ _ (Wrt.fresh w1 34)).mono ?_
  rintro e w2 ⟨rfl, W2, B2, _⟩
  have D2 : Hid (BalB w2 w.heap.size r n) := (D1.out.alloc _).keep B2 l1
  have C2 : Hid (Below w.heap.size w w2) := (C1.out.alloc C1.out.size _).trans (B2.mono C1.out.size)
  have HW2 := Lib.hid W2
  clear B2 W2 c0 c1
  go_wp2_with fail
  refine (wbytes_any _ _ _ HW2.out (by rw [List.nil_append, HN.out]; omega)).mono ?_
  rintro e w3 ⟨vb, rfl, OB, B3⟩
  have D3 : Hid (BalB w3 w.heap.size r n) := D2.out.keep B3 D2.out.lt
  have C3 : Hid (Below w.heap.size w w3) := C2.out.trans (B3.mono C2.out.size)
  rw [List.nil_append, HN.out] at OB
  have YB := byt_own OB (Nat.le_refl _)
  have HYB := Lib.hid YB
  have hrow : ∃ b off cap, vb = .slice (some ⟨b, off, none⟩) N cap := by
    rcases OB.2 with ⟨_, h0⟩ | ⟨r, cap, cur, rfl, _⟩
    · omega
    · exact ⟨_, _, _, rfl⟩
  obtain ⟨b, off, cap, rfl⟩ := hrow
  have TB : Hid (Byt w3 w.heap.size (.slice a L c) l) := HB.out.keep C3.out
  have HS : Hid (∀ o, Src Try.prog 1 32 (.slice (some ⟨b, off, none⟩) N cap) N (Lib.byteCells bs) (w3.alloc o)) := fun o => byt_src (HYB.out.keep ((Below.refl _ _).alloc (Nat.le_refl _) _))
  clear B3 OB YB HW2
  go_wp2_with (at_builtin; refine wpList_append_own_src rfl (.tmp 22) (.tmp 23) 32 32 rfl w3.heap.size 5 i0 (.int .u8 0) 1 1 Try.underlying32 hi hz0 hz1 hz2 rfl _ _ _ rfl (World.ownsRow_made w3 #[] 0 (Nat.le_refl _) (Nat.zero_le _) rfl) _ N (Lib.byteCells bs) rfl (HS.out _) ?c3 ?c4 ?c5 ?_)
  case c3 => unfold maxLen; omega
  case c4 => omega
  case c5 => simp
  intro v' w4 hown hgrow
  have B4 : Below w3.heap.size w3 w4 := ((Below.refl _ _).alloc (Nat.le_refl _) _).grown hgrow (by simp) (by intro k hk; simp [Value.ownBlock] at hk; omega)
  have D4 : Hid (BalB w4 w.heap.size r n) := D3.out.keep B4 D3.out.lt
  have C4 : Hid (Below w.heap.size w w4) := C3.out.trans (B4.mono C3.out.size)
  have YB4 : Hid (Byt w4 w3.heap.size (.slice (some ⟨b, off, none⟩) N cap) bs) := HYB.out.keep B4
  have TB4 : Hid (Src Try.prog 1 32 (.slice a L c) L (Lib.byteCells l) w4) := by
    have := bsrc (TB.out.keep (B4.mono C3.out.size))
    rw [HL.out] at this
    exact this
  have s4 := B4.size
  obtain ⟨a4, c4, rfl⟩ := own_shape hown
  try simp only [Nat.zero_add, List.nil_append] at hown
  have HO4 := Lib.hid hown
  clear B4 hown hgrow TB HYB HS
  go_wp2_with (at_builtin; refine wpList_append_own_src rfl (.tmp 24) (.tmp 25) 32 32 rfl w3.heap.size 5 i0 (.int .u8 0) 1 1 Try.underlying32 hi hz0 hz1 hz2 rfl _ N _ rfl HO4.out _ L (Lib.byteCells l) rfl TB4.out ?c3 ?c4 ?c5 ?_)
  case c3 => unfold maxLen; omega
  case c4 => omega
  case c5 => exact s4
  intro v' w5 hown hgrow
  have B5 : Below w3.heap.size w4 w5 := (Below.refl _ _).grown hgrow s4 (fun j hj => (HO4.out.lt j hj).1)
  have D5 : Hid (BalB w5 w.heap.size r n) := D4.out.keep B5 D3.out.lt
  have C5 : Hid (Below w.heap.size w w5) := C4.out.trans (B5.mono C3.out.size)
  have YB5 : Hid (Byt w5 w3.heap.size (.slice (some ⟨b, off, none⟩) N cap) bs) := YB4.out.keep B5
  have s5 := B5.size
  obtain ⟨a5, c5, rfl⟩ := own_shape hown
  have H5 : Hid (Byt w5 w5.heap.size (.slice a5 (N + L) c5) (bs ++ l)) := byt_own (by rw [Lib.byteCells_append]; exact hown) (Nat.le_refl _)
  clear B5 hown hgrow TB4 YB4 HO4
  go_wp2_with fail
  refine (new_any _ _ _ _ H5.out (Nat.le_refl _) (by rw [List.length_append, HN.out, HL.out]; omega)).mono ?_
  rintro e w6 ⟨h, rfl, hge, R6, B6⟩
  have D6 : Hid (BalB w6 w.heap.size r n) := D5.out.keep B6 D5.out.lt
  have C6 : Hid (Below w.heap.size w w6) := C5.out.trans (B6.mono C5.out.size)
  have YB6 : Hid (Byt w6 w3.heap.size (.slice (some ⟨b, off, none⟩) N cap) bs) := YB5.out.keep (B6.mono (by omega))
  have HR6 := Lib.hid R6
  have h3 : w3.heap.size ≤ h := by omega
  have hz := D3.out.lt
  clear B6 H5 YB5 R6
  go_wp2_with fail
  refine (vget_any h _ _ HR6.out (by intro l' hl'; cases hl'; rw [List.length_append, HN.out, HL.out]; omega)).mono ?_
  rw [HG.out]
  rintro e w7 ⟨rfl, R7, G7⟩
  have hlt6 := HR6.out.lt
  have B7 : Below h w6 w7 := grown_below G7 (Nat.le_refl _) hlt6
  have D7 : Hid (BalB w7 w.heap.size r n) := D6.out.keep B7 (by omega)
  have C7 : Hid (Below w.heap.size w w7) := C6.out.trans (B7.mono (by omega))
  have YB7 : Hid (Byt w7 w3.heap.size (.slice (some ⟨b, off, none⟩) N cap) bs) := YB6.out.keep (B7.mono h3)
  have s7 : w3.heap.size ≤ w7.heap.size := by have := B7.size; omega
  have HR7 := Lib.hid (fun o => rdrl_alloc R7 o)
  clear B7 G7 R7 HR6 YB6
  go_wp2_with fail
  refine (rend_any h _ _ (HR7.out _) (by intro l' hl'; cases hl'; rw [HL.out]; omega)).mono ?_
  obtain ⟨EE, hEE⟩ : ∃ EE, EE = rEnd (some l) := ⟨_, rfl⟩
  rw [← hEE] at HE ⊢
  clear hEE
  rintro e w8 ⟨rfl, rfl⟩
  have P0 : PX w (w7.alloc (.cells #[.int .i64 r, .int .i64 n] 23)).drew w.heap.size w7.heap.size r n w3.heap.size (.slice (some ⟨b, off, none⟩) N cap) bs :=
    ⟨D7.out.alloc _, BalB.fresh w7 _ _, YB7.out.keep ((Below.refl _ _).alloc s7 _).drew, (C7.out.alloc C7.out.size _).drew, by simp; omega⟩
  have FX : Hid (∀ u, PX w u w.heap.size w7.heap.size r n w3.heap.size (.slice (some ⟨b, off, none⟩) N cap) bs → u.cell? ⟨w.heap.size, 0, none⟩ = some (.int .i64 r) ∧ u.cell? ⟨w.heap.size, 1, none⟩ = some (.int .i64 n) ∧
      u.cell? ⟨w7.heap.size, 0, none⟩ = some (.int .i64 r) ∧ u.cell? ⟨w7.heap.size, 1, none⟩ = some (.int .i64 n) ∧ (convert 32 9 (.slice (some ⟨b, off, none⟩) N cap)).run Try.prog u = .ok (.string X) u) := fun u hu =>
    ⟨hu.a.cells.1, hu.a.cells.2.1, hu.b.cells.1, hu.b.cells.2.1, by rw [HXE.out]; exact run_conv_byt hu.x⟩
  clear hlt6
  go_wp2_with fail
  refine region_quiet (fun v => PX w v w.heap.size w7.heap.size r n w3.heap.size (.slice (some ⟨b, off, none⟩) N cap) bs) (by kernel_rfl) (by kernel_rfl) P0 ?_
  repeat (first
    | go_big_quiet_skip
    | (go_big_quiet_want
       (first
        | (refine quiet_run (v := ?_) ?_ ?_; rotate_left; (intro u hu; obtain ⟨c0, c1, c2, c3, k0⟩ := FX.out u hu; go_simp <;> with_reducible rfl); simp only [Act.put, List.setIfInBounds_toArray, List.set_cons_zero, List.set_cons_succ]; go_big_quiet_on)
        | (refine quiet_enter 9 _ ?_ (fun u hu => (HT.out u).mono fun e u' ⟨he, hb⟩ => ⟨he, hu.step hb⟩) ?_; (focus (intro u; first | (go_simp; done) | (go_simp; with_reducible rfl))); simp only [Act.put, List.setIfInBounds_toArray, List.set_cons_zero, List.set_cons_succ]; go_big_quiet_on)
        | (refine quiet_enter 19 _ ?_ (fun u hu => (HR.out u).mono fun e u' ⟨he, hb⟩ => ⟨he, hu.step hb⟩) ?_; (focus (intro u; first | (go_simp; done) | (go_simp; with_reducible rfl))); simp only [Act.put, List.setIfInBounds_toArray, List.set_cons_zero, List.set_cons_succ]; go_big_quiet_on))))
  refine wpQuiet_nil ?_
  intro w9 h9
  have C9 : Hid (Below w.heap.size w w9) := h9.bel
  clear P0 FX h9
  go_wp2
  go_returns
  exact ⟨ret_bool (by rcases HE.out with ⟨h1, h2⟩ | ⟨h1, h2⟩ <;> subst h1 <;> simp <;> omega), C9.out⟩

set_option maxRecDepth 100000 in
set_option maxHeartbeats 4000000 in
theorem walk (r n : Int) (v : Value) (l : List UInt8) (w : World) (_ : (Lit.int .i64 r).wf = true) (_ : (Lit.int .i64 n).wf = true) (hb : Byt w w.heap.size v l) :
    Calls Try.prog 5 #[.agg #[.int .i64 r, .int .i64 n], v] w fun e w' => e = .returned (.bool true) ∧ Below w.heap.size w w' := by
  cases hm : mayV r n with
  | false => exact bad r n v l w hb hm
  | true =>
    by_cases hl : 20 < l.length
    · exact long r n v l w hb hm hl
    · have h := mayV_yes.1 hm
      obtain ⟨x, rfl⟩ : ∃ x : Nat, r = x := ⟨r.toNat, by omega⟩
      obtain ⟨y, rfl⟩ : ∃ y : Nat, n = y := ⟨n.toNat, by omega⟩
      exact good x y v l w hb (by omega) (by omega) (by omega)

set_option maxRecDepth 100000 in
theorem lifted (os : Os) (started : os.Started) (H : Type) (enc : TypeId × Value → H) :
    ReturnsInHanded {} Try.checked os 5 .any (Rows.ballotBytesSpec.pre6 enc Try.prog Try.f5 Rows.ballotBytesRow.domain false) (Rows.ballotBytesSpec.post enc Try.prog Try.f5 false true false false) := by
  refine returnsInHanded_of_change (C := Try.checked) own started (by kernel_rfl) Try.func5
    (ChangeSpec.witness6 (enc := enc) (C := Try.checked) false ⟨#[], #[.agg #[.int .i64 0, .int .i64 0], .slice none 0 0], []⟩ 8 (by kernel_rfl) (by kernel_rfl) (by kernel_rfl) (by kernel_rfl)) ?_
  intro W base args ds gs before hval0 hW hcnd _
  have hval : ∀ (j : Nat) t v, Try.f5.params[j]? = some t → args[j]? = some v → Value.okWide Try.prog W .any base t v := hval0
  have hW' := hW
  obtain ⟨p, q, hA0, hV, rfl, hfz, hnd⟩ := hW
  have hA : DataW.TrodAll enc Try.prog W 0 (fun _ => true) true Try.f5.params.toList args.toList ds p := hA0
  rw [Try.params5] at hA hval
  obtain ⟨v0, vs0, d0, ds0, p0, q0, hargs, rfl, rfl, h0, r0⟩ := trodAll_cons hA
  obtain ⟨v1, vs1, d1, ds1, p1, q1, rfl, rfl, rfl, h1, r1⟩ := trodAll_cons r0
  obtain ⟨rfl, rfl, rfl⟩ := trodAll_nil r1
  obtain rfl : args = #[v0, v1] := by cases args; simp_all
  obtain ⟨rfl, rfl⟩ := trodVars_none hV
  have k0 := h0
  have lt0 : ∀ x ∈ p0, x.block < W.heap.size := by obtain ⟨m, hm⟩ := k0; exact DataW.trod_lt m _ _ _ hm
  obtain ⟨xa0, xb0, rfl, wa0, wb0⟩ := ballot_open (hval 0 23 v0 rfl rfl) h0
  obtain ⟨a1, len1, cap1, rfl⟩ := okWide_slice Try.underlying32 (hval 1 32 v1 rfl rfl)
  have k1 := h1
  have lt1 : ∀ x ∈ p1, x.block < W.heap.size := by obtain ⟨m, hm⟩ := k1; exact DataW.trod_lt m _ _ _ hm
  obtain ⟨l1, w1⟩ : ∃ l, Byt W W.heap.size (.slice a1 len1 cap1) l := by
    obtain ⟨fuel, hf⟩ := h1
    rcases open_ints Try.underlying32 Try.underlying5 (by kernel_rfl) hf with ⟨hcs, _⟩ | ⟨x, l, c, zs, hcs, _, hl, hm, hz, _, hcell, hwz⟩
    · simp [Value.cells] at hcs
      obtain ⟨rfl, rfl, rfl⟩ := hcs
      exact ⟨[], Byt.none _ _⟩
    · simp [Value.cells] at hcs
      obtain ⟨rfl, rfl, rfl⟩ := hcs
      obtain ⟨l, _, hb⟩ := byt_row hl hm (by simpa using hz) hcell hwz
      exact ⟨l, hb⟩
  clear hA0 hval0
  refine (walk xa0 xb0 (.slice a1 len1 cap1) l1 W wa0 wb0 w1).mono fun e W' ⟨he, bel⟩ => ?_
  subst he
  exact ⟨_, rfl, _, _, _, [], _, [], hW', trodAll_mk1 (shut_bool Try.underlying4 _), (trodAll_cons_mk (Below.trod laidOut (by kernel_rfl) (of_decide_eq_true (by kernel_rfl)) k0 bel lt0) (trodAll_cons_mk (Below.trod laidOut (by kernel_rfl) (of_decide_eq_true (by kernel_rfl)) k1 bel lt1) trodAll_mk0)), rfl, bel.frame _, fun h => by cases h⟩

theorem over : Rows.ballotBytesRow.holds Try.pinned (OpenSpec.ofChange Rows.ballotBytesSpec) :=
  OpenClaim.holds_of_wide 5 Try.f5 rfl rfl rfl rfl rfl rfl rfl ⟨rfl, rfl, rfl, rfl, rfl⟩ rfl rfl rfl rfl rfl (by kernel_rfl) Try.func5 (by kernel_rfl)
    (of_decide_eq_true (by kernel_rfl)) (by unfold Func.isWrapper; first | (rw [if_pos (by decide +kernel)]; kernel_rfl) | (rw [if_neg (by decide +kernel)]; exact ⟨rfl, rfl⟩))
    (fun os started H enc _ => lifted os started H enc)
end Go.Proofs.Ytejnphfjlphpiaa.BallotBytes

namespace Go.Proofs.Ytejnphfjlphpiaa
theorem ballotBytes_holds : Rows.BallotBytesSaid := BallotBytes.over
#print axioms ballotBytes_holds
end Go.Proofs.Ytejnphfjlphpiaa
