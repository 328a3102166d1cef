/-
  PROVED: casebooklaw1.PackForms answers true and leaves its arguments as they were, for every three numbers that can be read: the row's own reading and nothing else is assumed.
-/
import Derived.Test.YthnkipbbeiadjaaPackArgs
namespace Go.Proofs.Ythnkipbbeiadjaa.PackForms
open Go.ChangeShapes Go.WideShapes Go.ChangeAt Go.RowKit
open Go.ChangeMaps (open_string shut_string)

theorem uvarint_snoc : ∀ (k v : Nat), v < 128 ^ (k + 1) → ∃ p z, Lib.uvarint v = p ++ [z] ∧ ∀ b ∈ p, 128 ≤ b.toNat
  | 0, v, h => ⟨[], v.toUInt8, by rw [Lib.uvarint_small (by simpa using h)]; rfl, by simp⟩
  | k + 1, v, h => by
    by_cases hv : v < 128
    · exact ⟨[], v.toUInt8, by rw [Lib.uvarint_small hv]; rfl, by simp⟩
    · obtain ⟨p, z, e, hp⟩ := uvarint_snoc k (v / 128) (by rw [Nat.pow_succ] at h; exact Nat.div_lt_of_lt_mul (by rw [Nat.mul_comm]; exact h))
      refine ⟨(v % 128 + 128).toUInt8 :: p, z, by rw [Lib.uvarint_big (by omega), e]; rfl, fun b hb => ?_⟩
      rcases List.mem_cons.1 hb with rfl | hb
      · rw [Lib.toUInt8_toNat (by omega)]; omega
      · exact hp b hb

theorem rNum_written (M n : Nat) (hn : n < 18446744073709551616) : rNum M (some (Lib.uvarint n)) = if n ≤ M then (n, some []) else (0, none) := by
  have := numAt_uvarint n hn []
  rw [List.append_nil] at this
  simp only [rNum, this]
  split
  · simp
  · rfl

/-- All bytes go on, so many more that go on, and a zero byte. -/
theorem rNum_long (M j : Nat) (p : List UInt8) (z : UInt8) (hp : ∀ b ∈ p, 128 ≤ b.toNat) : rNum M (some (p ++ [z ||| 128] ++ List.replicate j 128 ++ [0])) = (0, none) := by
  have h := numAt_long (p ++ [z ||| 128] ++ List.replicate j 128) 0 0 (by
    intro b hb
    rw [List.mem_append, List.mem_append] at hb
    rcases hb with (hb | hb) | hb
    · exact hp b hb
    · obtain rfl := List.mem_singleton.1 hb
      rw [UInt8.toNat_or]
      exact Nat.right_le_or
    · obtain rfl := List.eq_of_mem_replicate hb
      decide) (.inr (by simp))
  simp only [rNum, h]

def longL (p : List UInt8) (y : UInt8) (j : Nat) : List UInt8 := p ++ [y] ++ List.replicate j 128
theorem longL_zero (p : List UInt8) (y : UInt8) : longL p y 0 = p ++ [y] := by simp [longL]
theorem longL_succ (p : List UInt8) (y : UInt8) (j : Nat) : Lib.byteCells (longL p y (j + 1)) = Lib.byteCells (longL p y j) ++ [Value.int .u8 128] := by
  unfold longL
  rw [List.replicate_succ', ← List.append_assoc, Lib.byteCells_append (p ++ [y] ++ List.replicate j 128)]
  rfl
theorem longL_end (p : List UInt8) (y : UInt8) (j : Nat) : Lib.byteCells (longL p y j ++ [0]) = Lib.byteCells (longL p y j) ++ [Value.int .u8 0] := by
  rw [Lib.byteCells_append]
  rfl
theorem longL_length (p : List UInt8) (y : UInt8) (j : Nat) : (longL p y j ++ [0]).length = p.length + 1 + j + 1 := by simp [longL]; omega

theorem or_u8 (a : UInt8) : bits .or .u8 (a.toNat : Int) 128 = (((a ||| 128).toNat : Nat) : Int) := by
  have := u8_or_nat a.toNat 128 a.toNat_lt (by decide)
  rw [UInt8.toNat_or]
  exact this

theorem byteCells_set (p : List UInt8) (z y : UInt8) : (Lib.byteCells (p ++ [z])).set p.length (.int .u8 (y.toNat : Int)) = Lib.byteCells (p ++ [y]) := by
  rw [Lib.byteCells_append, Lib.byteCells_append, List.set_append_right _ _ (by rw [Lib.byteCells_length]; exact Nat.le_refl _), Lib.byteCells_length, Nat.sub_self]
  rfl

theorem own_cell {w : World} {base g cap n : Nat} {l : List UInt8} (h : w.ownsRow base 5 1 (.slice (some ⟨g, 0, none⟩) n cap) n (Lib.byteCells l)) (j : Nat) (hj : j < l.length) : w.cell? ⟨g, j, none⟩ = some (.int .u8 (l.getD j 0).toNat) := by
  have hn : l.length = n := by have := h.1; rw [Lib.byteCells_length] at this; omega
  rw [h.cellAt j (by omega), byteCells_get l j hj]

set_option maxHeartbeats 4000000 in
set_option maxRecDepth 100000 in
theorem walk (v0 most0 more : Int) (w : World) (w0 : (Lit.int .u64 v0).wf = true) (w1 : (Lit.int .u64 most0).wf = true) (_ : (Lit.int .i64 more).wf = true) :
    Calls Try.prog 8 #[.int .u64 v0, .int .u64 most0, .int .i64 more] w fun e w' => e = .returned (.bool true) ∧ Below w.heap.size w w' := by
  obtain ⟨v, rfl, hv⟩ : ∃ v : Nat, v0 = (v : Int) ∧ v < 18446744073709551616 := by
    simp [Lit.wf, IntKind.min, IntKind.max, IntKind.signed, IntKind.bits] at w0
    exact ⟨v0.toNat, by omega, by omega⟩
  obtain ⟨most, rfl, hmost⟩ : ∃ v : Nat, most0 = (v : Int) ∧ v < 18446744073709551616 := by
    simp [Lit.wf, IntKind.min, IntKind.max, IntKind.signed, IntKind.bits] at w1
    exact ⟨most0.toNat, by omega, by omega⟩
  obtain ⟨i0, hi, hz0, hz1, hz2⟩ := info_parts info_u8
  obtain ⟨A, hA⟩ : ∃ A : Nat, IntKind.u64.wrap more = (A : Int) := ⟨(IntKind.u64.wrap more).toNat, by rw [IntKind.wrap_u64]; omega⟩
  have hk : (A : Int) % 3 = ((A % 3 : Nat) : Int) := by omega
  have hkl : A % 3 ≤ 2 := by omega
  generalize A % 3 = K at hk hkl
  obtain ⟨p, z, hpz, hp⟩ := uvarint_snoc 9 v (Nat.lt_of_lt_of_le hv (by decide))
  have hlen := Lib.uvarint_length64 hv
  have HP := Lib.hid hp
  have HPZ := Lib.hid hpz
  have HV := Lib.hid hv
  have HN := Lib.hid (rNum_written most v hv)
  have hpl : p.length + 1 ≤ 10 := by rw [hpz, List.length_append] at hlen; exact hlen
  have hC := Lib.hid (wnum_any w.heap.size v hv [] _ (Wrt.fresh w 26) (by simp))
  clear hv hmost hpz hp hlen w0 w1
  go_enter Try.func8, Try.ntmps8
  go_wp2_with fail
  refine hC.out.mono ?_
  rintro e w1 ⟨rfl, hW, hb⟩
  rw [List.nil_append] at hW
  have HB1 : Hid (Below w.heap.size w w1) := ((Below.refl _ _).alloc (Nat.le_refl _) _).trans hb
  have HW : Hid (Wrt w1 w.heap.size (p ++ [z])) := by rw [HPZ.out] at hW; exact hW
  clear hb hW hC
  go_wp2_with fail
  refine (wbytes_any w.heap.size _ _ HW.out (by simp; omega)).mono ?_
  rintro e w2 ⟨vb, rfl, hown, hb⟩
  have hs1 : w.heap.size ≤ w1.heap.size := HB1.out.size
  have HB2 := Lib.hid (HB1.out.trans (hb.mono hs1))
  have hs2 : w.heap.size ≤ w2.heap.size := HB2.out.size
  have HBy := Lib.hid (byt_own hown (Nat.le_refl _))
  have hpl1 : (p ++ [z]).length = p.length + 1 := by simp
  rw [hpl1] at hown
  have HO := Lib.hid hown
  obtain ⟨vg, vcap, rfl⟩ : ∃ g cap, vb = .slice (some ⟨g, 0, none⟩) (p.length + 1) cap := by
    rcases hown.2 with ⟨_, h0⟩ | ⟨g, cap, cur, rfl, _⟩
    · omega
    · exact ⟨g, cap, rfl⟩
  clear hb hown HB1 HW hs1 hpl1
  go_wp2_with fail
  refine (new_any _ _ _ _ HBy.out (Nat.le_refl _) (by simp; omega)).mono ?_
  rintro e w3 ⟨h, rfl, hge, hR, hb⟩
  have HB3 := Lib.hid (HB2.out.trans (hb.mono hs2))
  have HBy3 := Lib.hid (HBy.out.keep hb)
  have hwh : w.heap.size ≤ h := by omega
  have hlt := hR.lt
  have hC1 := rnum_any h _ most w3 hR (by intro l hl; cases hl; simp; omega)
  rw [← HPZ.out, HN.out] at hC1
  have HC := Lib.hid hC1
  clear hb HB2 HBy hR hC1
  refine Or.elim (Nat.lt_or_ge most v) ?big ?small
  case' small =>
    intro hvm
    rw [if_pos hvm] at HC
    have hgt : ¬ most < v := by omega
    go_wp2_with fail
    refine HC.out.mono ?_
    rintro e w4 ⟨rfl, hR, hg⟩
    have HB4 := Lib.hid (HB3.out.trans (grown_below hg hwh hlt))
    have HBy4 := Lib.hid (HBy3.out.keep (grown_below hg hge hlt))
    have hs4 : w.heap.size ≤ w4.heap.size := HB4.out.size
    have hz24 : w2.heap.size ≤ w4.heap.size := by have := hg.size; omega
    have HR := Lib.hid hR
    have HS := Lib.hid (byt_src (HBy4.out.keep (((Below.refl w4.heap.size w4).alloc (Nat.le_refl _) (.cells #[] 5)).mono hz24)))
    clear hg HC HB3 HBy3 hR
    go_wp2_with (first
      | (go_at_call 26; refine (rend_ok h _ HR.out).mono ?_; rintro e w' ⟨rfl, rfl⟩)
      | (at_builtin; refine wpList_append_own_src rfl (.tmp 54) (.tmp 55) 24 24 rfl w4.heap.size 5 i0 (.int .u8 0) 1 1 Try.underlying24 hi hz0 hz1 hz2 rfl _ _ _ rfl (World.ownsRow_made w4 #[] 0 (Nat.le_refl _) (Nat.zero_le _) rfl) _ (p.length + 1) (Lib.byteCells (p ++ [z])) rfl HS.out (by unfold maxLen; omega) (by omega) (by simp) ?_))
  case' big =>
    intro hvm
    have hnl : ¬ v ≤ most := by omega
    rw [if_neg hnl] at HC
    go_wp2_with fail
    refine HC.out.mono ?_
    rintro e w4 ⟨rfl, hR, hg⟩
    have HB4 := Lib.hid (HB3.out.trans (grown_below hg hwh hlt))
    have HBy4 := Lib.hid (HBy3.out.keep (grown_below hg hge hlt))
    have hs4 : w.heap.size ≤ w4.heap.size := HB4.out.size
    have hz24 : w2.heap.size ≤ w4.heap.size := by have := hg.size; omega
    have HR := Lib.hid hR
    have HS := Lib.hid (byt_src (HBy4.out.keep (((Below.refl w4.heap.size w4).alloc (Nat.le_refl _) (.cells #[] 5)).mono hz24)))
    clear hg HC HB3 HBy3 hR
    go_wp2_with (first
      | (go_at_call 26; refine (rend_bad h _ HR.out).mono ?_; rintro e w' ⟨rfl, rfl⟩)
      | (at_builtin; refine wpList_append_own_src rfl (.tmp 54) (.tmp 55) 24 24 rfl w4.heap.size 5 i0 (.int .u8 0) 1 1 Try.underlying24 hi hz0 hz1 hz2 rfl _ _ _ rfl (World.ownsRow_made w4 #[] 0 (Nat.le_refl _) (Nat.zero_le _) rfl) _ (p.length + 1) (Lib.byteCells (p ++ [z])) rfl HS.out (by unfold maxLen; omega) (by omega) (by simp) ?_))
  all_goals
    intro vc w5 hown hgrow
    have HB5 : Hid (Below w.heap.size w w5) := (HB4.out.alloc hs4 _).grown hgrow (by simp; omega) (by intro k hk; simp [Value.ownBlock] at hk; omega)
    have hown5 : w5.ownsRow w4.heap.size 5 1 vc (p.length + 1) (Lib.byteCells (p ++ [z])) := by simpa using hown
    obtain ⟨g, cap5, rfl⟩ : ∃ g cap, vc = .slice (some ⟨g, 0, none⟩) (p.length + 1) cap := by
      rcases hown5.2 with ⟨_, h0⟩ | ⟨g, cap, cur, rfl, _⟩
      · omega
      · exact ⟨g, cap, rfl⟩
    have hgl := (hown5.lt g rfl).1
    have hgl2 := (hown5.lt g rfl).2
    have hc : w5.cell? ⟨g, p.length, none⟩ = some (.int .u8 z.toNat) := by
      rw [own_cell hown5 p.length (by simp)]
      simp [List.getD]
    have hf := hown5.frozenAt p.length
    have hor := or_u8 z
    have hst := hown5.stored p.length (.int .u8 (((z ||| 128).toNat : Nat) : Int))
    rw [byteCells_set] at hst
    have HST := Lib.hid hst.1
    have HB6 : Hid (Below w.heap.size w (w5.setCell ⟨g, p.length, none⟩ (.int .u8 (((z ||| 128).toNat : Nat) : Int)))) := HB5.out.setCell (p := ⟨g, p.length, none⟩) (by show _ ≤ g; omega) _
    have hs6 : (w5.setCell ⟨g, p.length, none⟩ (.int .u8 (((z ||| 128).toNat : Nat) : Int))).heap.size = w5.heap.size := by simp [World.setCell]
    have HS6 := Lib.hid hs6
    clear hown hown5 hgrow hst hs6
    generalize hyz : z ||| 128 = y at hor HST HB6 HS6
    have HYZ := Lib.hid hyz
    clear hyz
    go_wp2
    go_loopw [12, 13] (fun vc vi wr => ∃ j : Nat, j ≤ K ∧ vi = .int .i64 j ∧ wr.ownsRow w4.heap.size 5 1 vc (p.length + 1 + j) (Lib.byteCells (longL p y j)) ∧ Below w.heap.size w wr ∧ w4.heap.size ≤ wr.heap.size)
      (fun _ vi _ => K - (intOf vi).toNat)
    case atStart => exact ⟨0, Nat.zero_le _, rfl, by rw [longL_zero]; exact HST.out, HB6.out, by rw [HS6.out]; omega⟩
    case round =>
      obtain ⟨j, hj, rfl, hown, hnx, hsz⟩ := hrel
      have HNX := Lib.hid hnx
      by_cases hjK : j < K
      · go_wp2_with (at_builtin; refine wpList_append_own_src rfl (.tmp 77) (.tmp 78) 24 24 rfl w4.heap.size 5 i0 (.int .u8 0) 1 1 Try.underlying24 hi hz0 hz1 hz2 rfl _ _ _ rfl (hown.alloc _) _ 1 [Value.int .u8 128] rfl (src_one wr _ _ rfl) (by unfold maxLen; omega) (by omega) (by simp; omega) ?_)
        intro vd w7 hown7 hgrow
        have H7 : Below w.heap.size w w7 := (HNX.out.alloc HNX.out.size _).grown hgrow (by have := HNX.out.size; simp; omega) (fun k hk => by have := (hown.lt k hk).1; omega)
        have hs7 := hgrow.size
        go_wp2
        go_roundw
        case rel =>
          refine ⟨j + 1, by omega, by go_num, ?_, H7, by simp at hs7; omega⟩
          rw [longL_succ, ← Nat.add_assoc]
          exact hown7
        case measure => simp [intOf]; omega
      · go_wp2_with (at_builtin; refine wpList_append_own_src rfl (.tmp 80) (.tmp 81) 24 24 rfl w4.heap.size 5 i0 (.int .u8 0) 1 1 Try.underlying24 hi hz0 hz1 hz2 rfl _ _ _ rfl (hown.alloc _) _ 1 [Value.int .u8 0] rfl (src_one wr _ _ rfl) (by unfold maxLen; omega) (by omega) (by simp; omega) ?_)
        intro vd w7 hown7 hgrow
        have H7 : Below w.heap.size w w7 := (HNX.out.alloc HNX.out.size _).grown hgrow (by have := HNX.out.size; simp; omega) (fun k hk => by have := (hown.lt k hk).1; omega)
        rw [← longL_end] at hown7
        have HBy7 := Lib.hid (byt_own hown7 (Nat.le_refl _))
        obtain ⟨ad, cd, rfl⟩ := own_shape hown7
        have HB7 := Lib.hid H7
        have hs7 : w.heap.size ≤ w7.heap.size := H7.size
        clear hown7 hgrow hown H7 hnx HNX HST HB6 HB5
        go_wp2_with fail
        refine (new_any _ _ _ _ HBy7.out (Nat.le_refl _) (by rw [longL_length]; omega)).mono ?_
        rintro e w8 ⟨h8, rfl, hge8, hR8, hb⟩
        have HB8 := Lib.hid (HB7.out.trans (hb.mono hs7))
        have hwh8 : w.heap.size ≤ h8 := by omega
        have hlt8 := hR8.lt
        have hC8 := rnum_any h8 _ 18446744073709551615 w8 hR8 (by intro l hl; cases hl; rw [longL_length]; omega)
        have hL8 : rNum 18446744073709551615 (some (longL p y j ++ [0])) = (0, none) := by rw [← HYZ.out]; exact rNum_long _ j p z HP.out
        rw [hL8] at hC8
        have HC8 := Lib.hid hC8
        clear hb HB7 HBy7 hR8 hC8 hL8
        go_wp2_with fail
        refine HC8.out.mono ?_
        rintro e w9 ⟨rfl, hR9, hg⟩
        have HB9 := Lib.hid (HB8.out.trans (grown_below hg hwh8 hlt8))
        have hs9 : w.heap.size ≤ w9.heap.size := HB9.out.size
        have HR9 := Lib.hid hR9
        clear hg HC8 HB8 hR9
        go_wp2_with (first
          | (go_at_call 11; refine (told_any _).mono ?_; rintro e w10 ⟨rfl, hb10⟩; have HB10 := Lib.hid (HB9.out.trans (hb10.mono hs9)); have HR10 := Lib.hid (HR9.out.below hb10); have hlt10 := HR10.out.lt; clear hb10)
          | (go_at_call 26; refine (rend_bad h8 _ HR10.out).mono ?_; rintro e w' ⟨rfl, rfl⟩)
          | (go_at_call 22; refine (rtext_any h8 none 5 5 (by decide) (.inr rfl) _ HR10.out (by intro l hl; cases hl)).mono ?_; rintro e w11 ⟨rfl, hr11, hg11⟩; have HB11 := Lib.hid (HB10.out.trans (grown_below hg11 hwh8 hlt10)); have HR11 := Lib.hid hr11; have hlt11 := HR11.out.lt; clear hr11 hg11)
          | (go_at_call 24; refine (ryes_any h8 none _ HR11.out (by intro l hl; cases hl)).mono ?_; rintro e w12 ⟨rfl, hr12, hg12⟩; have HB12 := Lib.hid (HB11.out.trans (grown_below hg12 hwh8 hlt11)); clear hr12 hg12))
        go_returns
        exact ⟨rfl, HB12.out⟩

set_option maxRecDepth 100000 in
theorem lifted (os : Os) (started : os.Started) (H : Type) (enc : TypeId × Value → H) :
    ReturnsInHanded {} Try.checked os 8 .any (Rows.packFormsSpec.pre6 enc Try.prog Try.f8 Rows.packFormsRow.domain false) (Rows.packFormsSpec.post enc Try.prog Try.f8 false true false false) := by
  refine returnsInHanded_of_change (C := Try.checked) own started (by kernel_rfl) Try.func8
    (ChangeSpec.witness6 (enc := enc) (C := Try.checked) false ⟨#[], #[.int .u64 0, .int .u64 0, .int .i64 0], []⟩ 8 (by kernel_rfl) (by kernel_rfl) (by kernel_rfl) (by kernel_rfl)) ?_
  intro W base args ds gs before hval0 hW hcnd _
  have hval : ∀ (j : Nat) t v, Try.f8.params[j]? = some t → args[j]? = some v → Value.okWide Try.prog W .any base t v := hval0
  have hW' := hW
  obtain ⟨p, q, hA0, hV, rfl, hfz, hnd⟩ := hW
  have hA : DataW.TrodAll enc Try.prog W 0 (fun _ => true) true Try.f8.params.toList args.toList ds p := hA0
  rw [Try.params8] at hA hval
  obtain ⟨v0, vs0, d0, ds0, p0, q0, hargs, rfl, rfl, h0, r0⟩ := trodAll_cons hA
  obtain ⟨v1, vs1, d1, ds1, p1, q1, rfl, rfl, rfl, h1, r1⟩ := trodAll_cons r0
  obtain ⟨v2, vs2, d2, ds2, p2, q2, rfl, rfl, rfl, h2, r2⟩ := trodAll_cons r1
  obtain ⟨rfl, rfl, rfl⟩ := trodAll_nil r2
  obtain rfl : args = #[v0, v1, v2] := by cases args; simp_all
  obtain ⟨rfl, rfl⟩ := trodVars_none hV
  obtain ⟨a0, rfl, rfl, rfl, w0⟩ := open_int Try.underlying27 (hval 0 27 v0 rfl rfl) h0
  obtain ⟨a1, rfl, rfl, rfl, w1⟩ := open_int Try.underlying27 (hval 1 27 v1 rfl rfl) h1
  obtain ⟨a2, rfl, rfl, rfl, w2⟩ := open_int Try.underlying3 (hval 2 3 v2 rfl rfl) h2
  clear hA0 hval0
  refine (walk a0 a1 a2 W w0 w1 w2).mono fun e W' ⟨he, bel⟩ => ?_
  subst he
  exact ⟨_, rfl, _, _, _, [], _, [], hW', trodAll_mk1 (shut_bool Try.underlying4 _), (trodAll_cons_mk (shut_int Try.underlying27 w0) (trodAll_cons_mk (shut_int Try.underlying27 w1) (trodAll_cons_mk (shut_int Try.underlying3 w2) trodAll_mk0))), rfl, bel.frame _, fun h => by cases h⟩

theorem over : Rows.packFormsRow.holds Try.pinned (OpenSpec.ofChange Rows.packFormsSpec) :=
  OpenClaim.holds_of_wide 8 Try.f8 rfl rfl rfl rfl rfl rfl rfl ⟨rfl, rfl, rfl, rfl, rfl⟩ rfl rfl rfl rfl rfl (by kernel_rfl) Try.func8 (by kernel_rfl)
    (of_decide_eq_true (by kernel_rfl)) (by unfold Func.isWrapper; first | (rw [if_pos (by decide +kernel)]; kernel_rfl) | (rw [if_neg (by decide +kernel)]; exact ⟨rfl, rfl⟩))
    (fun os started H enc _ => lifted os started H enc)
end Go.Proofs.Ythnkipbbeiadjaa.PackForms

namespace Go.Proofs.Ythnkipbbeiadjaa
theorem packForms_holds : Rows.PackFormsSaid := PackForms.over
#print axioms packForms_holds
end Go.Proofs.Ythnkipbbeiadjaa
