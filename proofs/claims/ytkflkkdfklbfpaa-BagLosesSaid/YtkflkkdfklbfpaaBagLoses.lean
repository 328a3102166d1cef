/-
  PROVED: casebooklaw9.BagLoses answers true and leaves its arguments as they were, for any ints and any number: the row's own reading and nothing else is assumed.
-/
import Derived.Test.YtkflkkdfklbfpaaBagArgs
namespace Go.Proofs.Ytkflkkdfklbfpaa.BagLoses
open Go.ChangeShapes Go.WideShapes Go.ChangeAt Go.RowKit

/-- The message of the i-th. -/
def mk (tt : Nat → Int) (i : Nat) : MsgV := ⟨0, tt i, ⟨#[UInt8.ofNat i]⟩⟩
def msgs (tt : Nat → Int) (k : Nat) : List MsgV := (List.range k).map (mk tt)
def ln (tt : Nat → Int) (x : Int) (k : Nat) : List Nat := (List.range k).filter fun i => !(tt i == x)
theorem msgs_succ (tt : Nat → Int) (k : Nat) : msgs tt (k + 1) = msgs tt k ++ [mk tt k] := by simp [msgs, List.range_succ]
theorem msgs_length (tt : Nat → Int) (k : Nat) : (msgs tt k).length = k := by simp [msgs]
theorem ln_yes {tt : Nat → Int} {x : Int} {k : Nat} (h : (tt k == x) = true) : ln tt x (k + 1) = ln tt x k := by simp [ln, List.range_succ, List.filter_append, h]
theorem ln_no {tt : Nat → Int} {x : Int} {k : Nat} (h : (tt k == x) = false) : ln tt x (k + 1) = ln tt x k ++ [k] := by simp [ln, List.range_succ, List.filter_append, h]
theorem ln_lt {tt : Nat → Int} {x : Int} {k i : Nat} (h : i ∈ ln tt x k) : i < k ∧ (tt i == x) = false := by
  unfold ln at h
  rw [List.mem_filter] at h
  exact ⟨List.mem_range.1 h.1, by simpa using h.2⟩
theorem rest_msgs (tt : Nat → Int) (x : Int) (k : Nat) : rest (msgs tt k) x = (ln tt x k).map (mk tt) := by
  unfold rest msgs ln
  rw [List.filter_map]
  rfl
theorem mAt_msgs (tt : Nat → Int) {N j : Nat} (h : j < N) : mAt (msgs tt N) j = mk tt j := by
  unfold mAt msgs
  rw [List.getD_eq_getElem?_getD, List.getElem?_map, List.getElem?_range h]
  rfl
theorem toAt_msgs (tt : Nat → Int) (x : Int) (N : Nat) : ∀ k, k ≤ N → (toAt (msgs tt N) x k).length + (ln tt x k).length = k := by
  intro k
  induction k with
  | zero => intro _; rfl
  | succ k ih =>
    intro hk
    have h := ih (by omega)
    have hm := mAt_msgs tt (show k < N by omega)
    cases hq : (tt k == x) with
    | true => rw [toAt_yes (by rw [hm]; exact hq), ln_yes hq, List.length_append, List.length_singleton]; omega
    | false => rw [toAt_no (by rw [hm]; exact hq), ln_no hq, List.length_append, List.length_singleton]; omega
theorem toAt_rest (L : List MsgV) (x : Int) : ∀ k, k ≤ (rest L x).length → toAt (rest L x) x k = [] := by
  intro k
  induction k with
  | zero => intro _; rfl
  | succ k ih =>
    intro hk
    have hm : mAt (rest L x) k ∈ rest L x := mAt_mem (by omega)
    unfold rest at hm
    rw [List.mem_filter] at hm
    rw [toAt_no (by simpa [rest] using hm.2)]
    exact ih (by omega)
def natC (l : List Nat) : List Value := l.map fun i : Nat => .int .i64 (i : Int)

set_option maxRecDepth 100000 in
set_option maxHeartbeats 8000000 in
theorem main (l : List Int) (len : Nat) (a : Option Addr) (c : Nat) (who : Int) (w : World) (hI : Ints w w.heap.size (.slice a len c) l) :
    Calls Try.prog 3 #[.slice a len c, .int .i64 who] w fun e w' => e = .returned (.bool true) ∧ Below w.heap.size w w' := by
  obtain ⟨i0, hi, hz0, hz1, hz2⟩ := info_parts ginfo_int
  have HN := Lib.hid (g_new w w w.heap.size (Below.refl _ _) (Nat.le_refl _))
  have HT := Lib.hid (fun u => told9_any u)
  obtain ⟨n, hn⟩ : ∃ n, n = w.heap.size := ⟨_, rfl⟩
  rw [← hn] at HN hI ⊢
  obtain ⟨_, _, hv, hcap, hmax, _, hcells⟩ := hI
  cases hv
  obtain ⟨len, hl⟩ : ∃ len, len = l.length := ⟨_, rfl⟩
  rw [← hl] at hcap ⊢
  have HL := Lib.hid hl
  have HC := Lib.hid hcells
  have HW := Lib.hid hn
  clear hcells hl hn
  go_enter Try.func3, Try.ntmps3
  go_wp2_with fail
  refine HN.out.mono ?_
  rintro e w1 ⟨rfl, hb, _⟩
  have B1 := Lib.hid hb
  clear hb HN
  by_cases h40 : 40 < len
  · go_wp2_with fail
    refine (HT.out _).mono ?_
    rintro e w2 ⟨rfl, hb⟩
    go_wp2
    go_returns
    exact ⟨rfl, B1.out.bel.trans (hb.mono B1.out.size)⟩
  · go_wp2_with fail
    generalize wrap64 ((IntKind.u64.wrap who).tmod 4) = x
    obtain ⟨tt, htt⟩ : ∃ tt : Nat → Int, tt = fun j => wrap64 ((IntKind.u64.wrap (l.getD j 0)).tmod 4) := ⟨_, rfl⟩
    have HTT := Lib.hid htt
    clear htt
    go_loopw [7, 8, 9] (fun s7 s8 s9 wr => ∃ (k lost m : Nat) (a1 : Option Addr) (c1 : Nat), s7 = .int .i64 lost ∧ s8 = .slice a1 m c1 ∧ s9 = .int .i64 k ∧ k ≤ len ∧ lost + m = k ∧ Hid (m = (ln tt x k).length) ∧ Hid (wr.ownsRow n 3 1 (.slice a1 m c1) m (natC (ln tt x k))) ∧ Hid (BgO n w n (msgs tt k) wr)) (fun _ _ s9 _ => len - (intOf s9).toNat)
    case atStart => exact ⟨0, 0, 0, none, 0, rfl, rfl, rfl, Nat.zero_le _, rfl, (show _ = _ from rfl), World.ownsRow_nil _ _ _ _, B1.out⟩
    case round =>
      obtain ⟨k, lost, m, a1, c1, rfl, rfl, rfl, hk, hlm, HM, HR, HB⟩ := hrel
      by_cases hlt : k < len
      · obtain ⟨b, off, rfl, hbw, hc⟩ := HC.out (List.length_pos_iff.1 (by have := HL.out; omega))
        have q0 := (HB.out.bel.cell (p := ⟨b, off + k, none⟩) hbw).trans (hc k (by have := HL.out; omega))
        have ht : wrap64 ((IntKind.u64.wrap (l.getD k 0)).tmod 4) = tt k := by rw [HTT.out]
        generalize l.getD k 0 = z at q0 ht
        have k1 : (k : Int) < (len : Int) := by omega
        have k8 : IntKind.u8.wrap (k : Int) = (k : Int) := by rw [IntKind.wrap_u8]; omega
        have HA : Hid (∀ u, BgO n w n (msgs tt k) u → Calls Try.prog 9 #[.pointer (some ⟨n, 0, none⟩), .int .i64 0, .int .i64 (tt k), .slice (some ⟨u.heap.size, 0, none⟩) 1 1] (u.alloc (.cells #[.int .u8 k] 5)) fun e w' => (∃ y : Int, e = .returned (.int .i64 y)) ∧ Hid (BgO n w n (msgs tt (k + 1)) w') ∧ Hid (KB (u.alloc (.cells #[.int .u8 k] 5)) w')) := fun u hu => by
          refine (g_add (hu.alloc _) 0 (tt k) (byt_one u k (by omega)) (by simp) (by rw [msgs_length]; omega)).mono ?_
          rintro e w' ⟨rfl, h1, h2⟩
          exact ⟨⟨_, rfl⟩, by rw [msgs_succ]; exact h1, h2⟩
        clear hc
        generalize hy : tt k = y at ht HA
        cases hq : (y == x) with
        | true =>
          have HE := Lib.hid (ln_yes (tt := tt) (x := x) (k := k) (by rw [hy]; exact hq))
          clear hy
          go_wp2_with fail
          refine (HA.out _ HB.out).mono ?_
          rintro e w2 ⟨⟨y2, rfl⟩, B2, K2⟩
          have R2 := Lib.hid (K2.out.row (HR.out.alloc _) (by decide) (by decide))
          go_wp2
          go_roundw
          case rel => exact ⟨k + 1, lost + 1, m, a1, c1, by go_num, rfl, by go_num, by omega, by omega, (show _ = _ by rw [HE.out]; exact HM.out), by rw [HE.out]; exact R2.out, B2.out⟩
          case measure => simp [intOf]; omega
        | false =>
          have HE := Lib.hid (ln_no (tt := tt) (x := x) (k := k) (by rw [hy]; exact hq))
          clear hy
          go_wp2_with fail
          refine (HA.out _ HB.out).mono ?_
          rintro e w2 ⟨⟨y2, rfl⟩, B2, K2⟩
          have R2 := Lib.hid (K2.out.row (HR.out.alloc _) (by decide) (by decide))
          go_wp2_with (at_builtin; refine wpList_append_own_src rfl (.tmp 52) (.tmp 54) 22 22 rfl n 3 i0 (.int .i64 0) 1 8 Try.underlying22 hi hz0 hz1 hz2 rfl _ _ _ rfl (R2.out.alloc _) _ 1 [Value.int .i64 (k : Int)] rfl (gsrc1 w2 _) ?c3 ?c4 ?c5 ?_)
          case c3 => unfold maxLen; omega
          case c4 => omega
          case c5 => have := B2.out.size; simp; omega
          intro v3 w3 h3 g3
          obtain ⟨a3, c3, rfl⟩ := own_shape h3
          have H3 := Lib.hid h3
          have B3 : Hid (BgO n w n (msgs tt (k + 1)) w3) := (B2.out.alloc _).grown (R2.out.alloc _) g3 (by decide) (by decide) (Nat.le_refl _)
          clear h3 g3
          go_wp2
          go_roundw
          case rel => exact ⟨k + 1, lost, m + 1, a3, c3, rfl, rfl, by go_num, by omega, by omega, (show _ = _ by rw [HE.out, List.length_append, HM.out]; rfl), by rw [HE.out, show natC (ln tt x k ++ [k]) = natC (ln tt x k) ++ [Value.int .i64 (k : Int)] by simp [natC]]; exact H3.out, B3.out⟩
          case measure => simp [intOf]; omega
      · have hle : (len : Int) ≤ (k : Int) := by omega
        obtain rfl : k = len := by omega
        have hto := toAt_msgs tt x k k (Nat.le_refl _)
        have hm := HM.out
        have HTo : Hid (∀ u, BgO n w n (msgs tt k) u → Calls Try.prog 10 #[.pointer (some ⟨n, 0, none⟩), .int .i64 x] u fun e w' => ∃ a c, e = .returned (.slice a lost c) ∧ Below u.heap.size u w') := fun u hu => by
          refine (g_to hu x (by rw [msgs_length]; omega)).mono ?_
          rintro e w' ⟨a, c, rfl, _, h⟩
          rw [msgs_length]
          exact ⟨a, c, by rw [show (toAt (msgs tt k) x k).length = lost by omega], h⟩
        have HLo : Hid (∀ u, BgO n w n (msgs tt k) u → Calls Try.prog 11 #[.pointer (some ⟨n, 0, none⟩), .int .i64 x] u fun e w' => e = .returned (.int .i64 lost) ∧ Hid (BgO n w n ((ln tt x k).map (mk tt)) w') ∧ Hid (KB u w')) := fun u hu => by
          refine (g_lose hu x (by rw [msgs_length]; omega)).mono ?_
          rintro e w' ⟨rfl, h1, h2⟩
          rw [rest_msgs] at h1 ⊢
          refine ⟨?_, h1, h2⟩
          rw [msgs_length, List.length_map, ← hm, show (k : Int) - (m : Int) = (lost : Int) by omega]
        have HLe : Hid (∀ u, BgO n w n ((ln tt x k).map (mk tt)) u → Calls Try.prog 12 #[.pointer (some ⟨n, 0, none⟩)] u fun e w' => e = .returned (.int .i64 m) ∧ u = w') := fun u hu => by
          have := g_len hu
          rwa [List.length_map, ← hm] at this
        have HT2 : Hid (∀ u, BgO n w n ((ln tt x k).map (mk tt)) u → Calls Try.prog 10 #[.pointer (some ⟨n, 0, none⟩), .int .i64 x] u fun e w' => ∃ a c, e = .returned (.slice a 0 c) ∧ Below u.heap.size u w') := fun u hu => by
          refine (g_to hu x (by rw [List.length_map, ← hm]; omega)).mono ?_
          rintro e w' ⟨a, c, rfl, _, h⟩
          rw [← rest_msgs, toAt_rest _ _ _ (Nat.le_refl _)]
          exact ⟨a, c, rfl, h⟩
        clear hto hm
        go_wp2_with fail
        refine (HTo.out _ HB.out).mono ?_
        rintro e w2 ⟨a2, c2, rfl, hb2⟩
        have B2 := Lib.hid (HB.out.on hb2)
        have R2 := Lib.hid (ownsRow_at HR.out hb2)
        clear hb2
        go_wp2_with fail
        refine (HLo.out _ B2.out).mono ?_
        rintro e w3 ⟨rfl, B3, K3⟩
        have R3 := Lib.hid (K3.out.row R2.out (by decide) (by decide))
        go_wp2_with fail
        refine (HLe.out _ B3.out).mono ?_
        rintro e w4 ⟨rfl, rfl⟩
        go_wp2_with fail
        refine (HT2.out _ B3.out).mono ?_
        rintro e w5 ⟨a5, c5, rfl, hb5⟩
        have B5 := Lib.hid (B3.out.on hb5)
        have R5 := Lib.hid (ownsRow_at R3.out hb5)
        clear hb5
        obtain ⟨LL, hLL⟩ : ∃ LL, LL = ln tt x k := ⟨_, rfl⟩
        have HJ : Hid (∀ i (h : i < m), ∃ j, j < 256 ∧ (tt j == x) = false ∧ (natC LL)[i]? = some (.int .i64 (j : Int)) ∧ mAt ((LL.map (mk tt)).drop i) 0 = mk tt j) := fun i h => by
          have h' : i < LL.length := by rw [hLL, ← HM.out]; exact h
          have hmem : LL[i] ∈ ln tt x k := hLL ▸ List.getElem_mem h'
          have h2 := ln_lt hmem
          refine ⟨LL[i], by omega, h2.2, by simp [natC, h'], ?_⟩
          unfold mAt
          rw [List.getD_eq_getElem?_getD, List.getElem?_drop]
          simp [h']
        have HLL : Hid (m = LL.length) := by rw [hLL]; exact HM
        rw [← hLL] at B5 R5 HR
        have HTk : Hid (∀ i j u, i < m → mAt ((LL.map (mk tt)).drop i) 0 = mk tt j → BgO n w n ((LL.map (mk tt)).drop i) u → Calls Try.prog 13 #[.pointer (some ⟨n, 0, none⟩), .int .i64 0] u fun e w' => (∃ b off c, e = .returned (.tuple #[.int .i64 0, .int .i64 (tt j), .slice (some ⟨b, off, none⟩) 1 c, .int .i64 0]) ∧ w'.cell? ⟨b, off, none⟩ = some (.int .u8 ((UInt8.ofNat j).toNat : Int))) ∧ Hid (BgO n w n ((LL.map (mk tt)).drop (i + 1)) w') ∧ Hid (KB u w')) := fun i j u hi hj hu => by
          have hlen : ((LL.map (mk tt)).drop i).length = m - i := by rw [List.length_drop, List.length_map, ← HLL.out]
          refine (g_take hu 0 (by omega) (by omega) (by rw [hj]; exact (by decide : 1 ≤ maxLen))).mono ?_
          rintro e w' ⟨⟨a, c, rfl, hy⟩, h1, h2⟩
          rw [hj] at hy ⊢
          refine ⟨?_, by rw [List.take_zero, List.nil_append, List.drop_drop] at h1; rwa [Nat.add_comm] at h1 ⊢, h2⟩
          obtain ⟨ao, cap, hv, _, _, _, h4⟩ := hy
          obtain ⟨b, off, rfl, _, hc⟩ := h4 (by simp [mk])
          simp only [Value.slice.injEq] at hv
          obtain ⟨rfl, _, rfl⟩ := hv
          exact ⟨b, off, c, rfl, hc 0 (by simp [mk])⟩
        have HLe2 : Hid (∀ u, BgO n w n ((LL.map (mk tt)).drop m) u → Calls Try.prog 12 #[.pointer (some ⟨n, 0, none⟩)] u fun e w' => e = .returned (.int .i64 0) ∧ u = w') := fun u hu => by
          have := g_len hu
          rwa [List.length_drop, List.length_map, ← HLL.out, Nat.sub_self] at this
        clear hLL HTo HLo HLe HT2 HC HM
        go_wp2_with fail
        go_loopw [12] (fun s12 wr => ∃ i : Nat, s12 = .int .i64 i ∧ i ≤ m ∧ Hid (wr.ownsRow n 3 1 (.slice a1 m c1) m (natC LL)) ∧ Hid (BgO n w n ((LL.map (mk tt)).drop i) wr)) (fun s12 _ => m - (intOf s12).toNat)
        case atStart => exact ⟨0, rfl, Nat.zero_le _, R5, B5⟩
        case round =>
          obtain ⟨i, rfl, him, RR, BB⟩ := hrel
          by_cases hit : i < m
          · obtain ⟨j, hj, hq, hcj, hmj⟩ := HJ.out i hit
            have HTj := Lib.hid (HTk.out i j wr hit hmj BB.out)
            have hju : ((UInt8.ofNat j).toNat : Int) = (j : Int) := by simp [Nat.mod_eq_of_lt hj]
            rw [hju] at HTj
            generalize tt j = y at HTj hq
            have i1 : (i : Int) < (m : Int) := by omega
            have i0' : (0 : Int) ≤ (i : Int) := by omega
            have jw : IntKind.i64.wrap (j : Int) = (j : Int) := by rw [IntKind.wrap_i64]; omega
            clear hmj hju
            go_wp2_with fail
            refine HTj.out.mono ?_
            rintro e w6 ⟨⟨b6, o6, c6, rfl, h6⟩, B6, K6⟩
            have R6 := Lib.hid (K6.out.row RR.out (by decide) (by decide))
            obtain ⟨q, rfl, hq6⟩ : ∃ q, a1 = some ⟨q, 0, none⟩ ∧ w6.cell? ⟨q, i, none⟩ = some (.int .i64 (j : Int)) := by
              rcases R6.out.2 with ⟨hv, h0⟩ | ⟨q, cap, cur, hv, _⟩
              · omega
              · simp only [Value.slice.injEq] at hv
                obtain ⟨rfl, _, rfl⟩ := hv
                have := R6.out.cells (g := q) rfl i _ hcj
                rw [Addr.add_lit, Nat.zero_add] at this
                exact ⟨q, rfl, this⟩
            clear hcj HTj
            go_upto_region 23 with fail
            go_quiet (fail)
            go_wp2
            go_roundw
            case rel => exact ⟨i + 1, by go_num, by omega, ownsRow_at R6.out ⟨rfl, rfl, rfl, Nat.le_refl _, fun _ _ => rfl⟩, B6.out.drewN _⟩
            case measure => simp [intOf]; omega
          · have hle2 : (m : Int) ≤ (i : Int) := by omega
            obtain rfl : i = m := by omega
            go_wp2_with fail
            refine (HT.out _).mono ?_
            rintro e w7 ⟨rfl, hb7⟩
            have B7 := Lib.hid (BB.out.on hb7)
            clear hb7
            go_wp2_with fail
            refine (HLe2.out _ B7.out).mono ?_
            rintro e w8 ⟨rfl, rfl⟩
            go_wp2
            go_returns
            exact ⟨rfl, B7.out.bel⟩

theorem walk (v : Value) (l : List Int) (who : Int) (w : World) (hI : Ints w w.heap.size v l) (_ : (Lit.int .i64 who).wf = true) :
    Calls Try.prog 3 #[v, .int .i64 who] w fun e w' => e = .returned (.bool true) ∧ Below w.heap.size w w' := by
  obtain ⟨a, c, rfl, _⟩ := id hI
  exact main l l.length a c who w hI

set_option maxRecDepth 100000 in
theorem lifted (os : Os) (started : os.Started) (H : Type) (enc : TypeId × Value → H) :
    ReturnsInHanded {} Try.checked os 3 .any (Rows.bagLosesSpec.pre6 enc Try.prog Try.f3 Rows.bagLosesRow.domain false) (Rows.bagLosesSpec.post enc Try.prog Try.f3 false true false false) := by
  refine returnsInHanded_of_change (C := Try.checked) own started (by kernel_rfl) Try.func3
    (ChangeSpec.witness6 (enc := enc) (C := Try.checked) false ⟨#[], #[.slice none 0 0, .int .i64 0], []⟩ 8 (by kernel_rfl) (by kernel_rfl) (by kernel_rfl) (by kernel_rfl)) ?_
  intro W base args ds gs before hval0 hW hcnd _
  have hval : ∀ (j : Nat) t v, Try.f3.params[j]? = some t → args[j]? = some v → Value.okWide Try.prog W .any base t v := hval0
  have hW' := hW
  obtain ⟨p, q, hA0, hV, rfl, hfz, hnd⟩ := hW
  have hA : DataW.TrodAll enc Try.prog W 0 (fun _ => true) true Try.f3.params.toList args.toList ds p := hA0
  rw [Try.params3] at hA hval
  obtain ⟨v0, vs0, d0, ds0, p0, q0, hargs, rfl, rfl, h0, r0⟩ := trodAll_cons hA
  obtain ⟨v1, vs1, d1, ds1, p1, q1, rfl, rfl, rfl, h1, r1⟩ := trodAll_cons r0
  obtain ⟨rfl, rfl, rfl⟩ := trodAll_nil r1
  obtain rfl : args = #[v0, v1] := by cases args; simp_all
  obtain ⟨rfl, rfl⟩ := trodVars_none hV
  obtain ⟨a0, len0, cap0, rfl⟩ := okWide_slice Try.underlying22 (hval 0 22 v0 rfl rfl)
  have k0 := h0
  have lt0 : ∀ x ∈ p0, x.block < W.heap.size := by obtain ⟨m, hm⟩ := k0; exact DataW.trod_lt m _ _ _ hm
  obtain ⟨l0, w0⟩ := gints_open h0
  obtain ⟨a1, rfl, rfl, rfl, w1⟩ := open_int Try.underlying3 (hval 1 3 v1 rfl rfl) h1
  clear hA0 hval0
  refine (walk (.slice a0 len0 cap0) l0 a1 W w0 w1).mono fun e W' ⟨he, bel⟩ => ?_
  subst he
  exact ⟨_, rfl, _, _, _, [], _, [], hW', trodAll_mk1 (shut_bool Try.underlying4 _), (trodAll_cons_mk (Below.trod laidOut (by kernel_rfl) (of_decide_eq_true (by kernel_rfl)) k0 bel lt0) (trodAll_cons_mk (shut_int Try.underlying3 w1) trodAll_mk0)), rfl, bel.frame _, fun h => by cases h⟩

theorem over : Rows.bagLosesRow.holds Try.pinned (OpenSpec.ofChange Rows.bagLosesSpec) :=
  OpenClaim.holds_of_wide 3 Try.f3 rfl rfl rfl rfl rfl rfl rfl ⟨rfl, rfl, rfl, rfl, rfl⟩ rfl rfl rfl rfl rfl (by kernel_rfl) Try.func3 (by kernel_rfl)
    (of_decide_eq_true (by kernel_rfl)) (by unfold Func.isWrapper; first | (rw [if_pos (by decide +kernel)]; kernel_rfl) | (rw [if_neg (by decide +kernel)]; exact ⟨rfl, rfl⟩))
    (fun os started H enc _ => lifted os started H enc)
end Go.Proofs.Ytkflkkdfklbfpaa.BagLoses

namespace Go.Proofs.Ytkflkkdfklbfpaa
theorem bagLoses_holds : Rows.BagLosesSaid := BagLoses.over
#print axioms bagLoses_holds
end Go.Proofs.Ytkflkkdfklbfpaa
