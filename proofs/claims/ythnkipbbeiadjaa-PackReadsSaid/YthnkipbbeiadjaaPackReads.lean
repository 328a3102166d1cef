/-
  PROVED: casebooklaw1.PackReads answers true and leaves its arguments as they were, for every slice of bytes and every slice of things that can be read: the row's own reading and nothing else is assumed.
-/
import Derived.Test.YthnkipbbeiadjaaPackOps
import Derived.Test.YthnkipbbeiadjaaPackRef2
import Derived.Deep.DeepCutAuto
namespace Go.Proofs.Ythnkipbbeiadjaa.PackReads
open Go.ChangeShapes Go.WideShapes Go.ChangeAt Go.RowKit

/-- Two readers, the program's in block h, the reference's in block k, in one state. -/
structure Two (W w : World) (h k lo : Nat) (st : Option (List UInt8)) : Prop where
  one : RdrL lo w h st
  two : RRdr w k st
  lo : k < lo ∨ h < k
  ne : k ≠ h
  hh : W.heap.size ≤ h
  kk : W.heap.size ≤ k
  len : ∀ l, st = some l → l.length ≤ 500
  bel : Below W.heap.size W w

theorem rText_len (M : Nat) (st : Option (List UInt8)) (b : Nat) (hm : ∀ l, st = some l → l.length ≤ b) : ∀ l, (rText M st).2 = some l → l.length ≤ b := by
  intro l hl
  have h1 := rNum_len M st b hm
  unfold rText at hl
  generalize rNum M st = x at hl h1
  obtain ⟨n, st1⟩ := x
  cases st1 with
  | none => simp [rTextOf] at hl
  | some l0 =>
    simp only [rTextOf] at hl
    split at hl
    · simp only [Option.some.injEq] at hl
      subst hl
      have := h1 l0 rfl
      simp; omega
    · cases hl

theorem rrdr_after {w w1 : World} {h k : Nat} {st : Option (List UInt8)} (hR : RRdr w k st) (g : w.grownBy w1 (some h)) (hne : k ≠ h) : RRdr w1 k st :=
  hR.keep (g.block k hR.lt (fun e => hne (Option.some.inj e)))

theorem Two.drew {W w : World} {h k lo : Nat} {st : Option (List UInt8)} (t : Two W w h k lo st) : Two W w.drew h k lo st :=
  ⟨by have := t.one; cases st <;> exact this, by have := t.two; cases st <;> exact this, t.lo, t.ne, t.hh, t.kk, t.len, t.bel.drew⟩

theorem Two.next {W w w1 w2 : World} {h k lo : Nat} {st st' : Option (List UInt8)} (t : Two W w h k lo st) (h1 : RdrL lo w1 h st') (g1 : w.grownBy w1 (some h)) (h2 : RRdr w2 k st') (g2 : w1.grownBy w2 (some k))
    (hl : ∀ l, st' = some l → l.length ≤ 500) : Two W w2 h k lo st' :=
  ⟨h1.other g2 t.ne t.lo, h2, t.lo, t.ne, t.hh, t.kk, hl, (t.bel.trans (grown_below g1 t.hh t.one.lt)).trans (grown_below g2 t.kk (Nat.lt_of_lt_of_le t.two.lt g1.size))⟩

theorem Two.next' {W w w1 w2 : World} {h k lo : Nat} {st st' : Option (List UInt8)} (t : Two W w h k lo st) (h2 : RRdr w1 k st') (g2 : w.grownBy w1 (some k)) (h1 : RdrL lo w2 h st') (g1 : w1.grownBy w2 (some h))
    (hl : ∀ l, st' = some l → l.length ≤ 500) : Two W w2 h k lo st' :=
  ⟨h1, rrdr_after h2 g1 t.ne, t.lo, t.ne, t.hh, t.kk, hl, (t.bel.trans (grown_below g2 t.kk t.two.lt)).trans (grown_below g1 t.hh (Nat.lt_of_lt_of_le t.one.lt g2.size))⟩

theorem two_after {W w1 : World} {h : Nat} {l : List UInt8} {e : TypeId} (hR : RdrL W.heap.size w1 h (some l)) (hge : W.heap.size ≤ h) (hb : Below W.heap.size W w1) (hl : l.length ≤ 500) :
    Two W (w1.alloc (.cells #[.string ⟨l.toArray⟩, .bool false] e)) h w1.heap.size W.heap.size (some l) :=
  ⟨hR.below ((Below.refl _ _).alloc (Nat.le_refl _) _), ⟨_, heap_alloc_new w1 _⟩, .inr hR.lt, by have := hR.lt; omega, hge, hb.size, fun l' e => by cases e; exact hl, hb.alloc hb.size _⟩

theorem two_before {W w1 : World} {h : Nat} {l : List UInt8} {e : TypeId} (hR : RdrL (W.drew.alloc (.cells #[.string ⟨l.toArray⟩, .bool false] e)).heap.size w1 h (some l)) (hge : (W.drew.alloc (.cells #[.string ⟨l.toArray⟩, .bool false] e)).heap.size ≤ h)
    (hb : Below (W.drew.alloc (.cells #[.string ⟨l.toArray⟩, .bool false] e)).heap.size (W.drew.alloc (.cells #[.string ⟨l.toArray⟩, .bool false] e)) w1) (hl : l.length ≤ 500) :
    Two W w1 h W.heap.size (W.heap.size + 1) (some l) := by
  have hs : (W.drew.alloc (.cells #[.string ⟨l.toArray⟩, .bool false] e)).heap.size = W.heap.size + 1 := by simp
  have hl1 : W.heap.size < (W.drew.alloc (.cells #[.string ⟨l.toArray⟩, .bool false] e)).heap.size := by rw [hs]; exact Nat.lt_succ_self _
  rw [hs] at hge hR
  refine ⟨hR, ⟨e, (hb.block W.heap.size hl1).trans (heap_alloc_new W.drew _)⟩, .inl (by omega), by omega, by omega, Nat.le_refl _, fun l' e => by cases e; exact hl, ?_⟩
  exact ((Below.refl _ W).drew.alloc (Nat.le_refl _) _).trans (hb.mono (Nat.le_of_lt hl1))

set_option maxHeartbeats 4000000 in
set_option maxRecDepth 100000 in
theorem walk (v : Value) (lb : List UInt8) (v2 : Value) (L : List OpV) (w : World) (hby : Byt w w.heap.size v lb) (hL : Ops w w.heap.size v2 L) :
    Calls Try.prog 4 #[v, v2] w fun e w' => e = .returned (.bool true) ∧ Below w.heap.size w w' := by
  have HBy := Lib.hid hby
  obtain ⟨ao, cap, rfl, hc1, hc2, _⟩ := hby
  obtain ⟨ao2, cap2, rfl, hm, hfit, hcells⟩ := hL
  unfold maxLen at hm hc2
  by_cases h500 : 500 < lb.length
  · clear hcells hfit HBy
    go_enter Try.func4, Try.ntmps4
    go_wp2_with (go_at_call 11; refine (told_any _).mono ?_; rintro e w' ⟨rfl, hb⟩)
    go_returns
    exact ⟨rfl, by assumption⟩
  · by_cases h40 : 40 < L.length
    · clear hcells hfit HBy
      go_enter Try.func4, Try.ntmps4
      go_wp2_with (go_at_call 11; refine (told_any _).mono ?_; rintro e w' ⟨rfl, hb⟩)
      go_returns
      exact ⟨rfl, by assumption⟩
    · obtain ⟨n, hn⟩ : ∃ n, n = L.length := ⟨_, rfl⟩
      obtain ⟨nb, hnb⟩ : ∃ n, n = lb.length := ⟨_, rfl⟩
      rw [← hn] at h40 hm ⊢
      rw [← hnb] at HBy h500 hc1 ⊢
      have hn40 : n ≤ 40 := by omega
      have hn500 : nb ≤ 500 := by omega
      have HN := Lib.hid hn
      have HNB := Lib.hid hnb
      have HC := Lib.hid hcells
      have HF := Lib.hid hfit
      have hk0 := run_conv_byt HBy.out
      have HNL : Hid (lb.length ≤ 500) := by show _ ≤ _; omega
      clear hcells hfit hn h40 hm hnb h500 hc1 hc2
      go_enter Try.func4, Try.ntmps4
      go_upto_region 3 with fail
      go_cut [5, 6] (fun s5 s6 wr => ∃ h k lo : Nat, s5 = .pointer (some ⟨h, 0, none⟩) ∧ s6 = .pointer (some ⟨k, 0, none⟩) ∧ Two w wr h k lo (some lb))
      case first =>
        have hkd : (convert 24 9 (Value.slice ao nb cap)).run Try.prog w.drew = .ok (.string ⟨lb.toArray⟩) w.drew := run_conv_byt HBy.out
        go_region_with (first
          | (go_at_call 19; refine (new_any _ w.heap.size lb _ (by exact (HBy.out.keep (by first | exact (Below.refl _ w).drew | exact (Below.refl _ w).drew.alloc (Nat.le_refl _) _))) (by simp) (by have := HNL.out; omega)).mono ?_; rintro e w1 ⟨h1, rfl, hge1, hR1, hb1⟩; have hk1 := run_conv_byt (HBy.out.keep ((by first | exact ((Below.refl w.heap.size w).drew).trans hb1 | exact (((Below.refl w.heap.size w).drew.alloc (Nat.le_refl _) _)).trans (hb1.mono (by simp))))))
          )
        all_goals
          go_wp2_with fail
          go_meet
        case rel =>
          exact ⟨_, _, _, rfl, rfl, two_after hR1 hge1 (((Below.refl w.heap.size w).drew).trans hb1) HNL.out⟩
        case rel =>
          exact ⟨_, _, _, rfl, rfl, two_after hR1 hge1 (((Below.refl w.heap.size w).drew).trans hb1) HNL.out⟩
        case rel =>
          exact ⟨_, _, _, rfl, rfl, two_before hR1 hge1 hb1 HNL.out⟩
      case rest =>
        obtain ⟨h, k, lo, rfl, rfl, ht⟩ := hcut
        have HT := Lib.hid ht
        clear ht hk0
        go_wp2
        go_loopw [7] (fun vi wr => ∃ (j : Nat) (st : Option (List UInt8)), j ≤ n ∧ vi = .int .i64 j ∧ Two w wr h k lo st) (fun vi _ => n - (intOf vi).toNat)
        case atStart => exact ⟨0, some lb, by omega, rfl, HT.out⟩
        case round =>
          obtain ⟨j, st, hj, rfl, ht⟩ := hrel
          have T0 := Lib.hid ht.drew
          have T1 := Lib.hid ht
          clear HT
          by_cases hjn : j < n
          · have hjL : j < L.length := by rw [← HN.out]; exact hjn
            obtain ⟨b, off, rfl, hbw, hcc⟩ := HC.out (fun e => by rw [e] at hjL; simp at hjL)
            have hc0 := hcc j hjL
            have hfo := HF.out _ (List.getElem_mem hjL)
            clear hcc
            generalize L[j] = o at hc0 hfo
            obtain ⟨kd, nm, sv, ys, mr⟩ := o
            have HOC : Hid (∀ w', Below w.heap.size w w' → OpCells w' b (off + j * 5) ⟨kd, nm, sv, ys, mr⟩) := fun w' hb => hc0.keep hb hbw
            have HNM : Hid (nm < 18446744073709551616) := hfo.1
            have HMR : Hid (-9223372036854775808 ≤ mr ∧ mr ≤ 9223372036854775807) := hfo.2.2
            have c0 := (HOC.out _ ht.bel).kind
            simp only at c0
            have b1 : (0 : Int) ≤ (j : Int) := by omega
            have b2 : (j : Int) < (n : Int) := by omega
            clear hc0 hfo hjL ht
            rcases (show kd = 0 ∨ kd = 1 ∨ kd = 2 ∨ (kd ≠ 0 ∧ kd ≠ 1 ∧ kd ≠ 2) by omega) with h0 | h0 | h0 | ⟨h0, h1, h2⟩
            · subst h0
              have HL' := Lib.hid (rNum_len nm st 500 T1.out.len)
              have HA := fun (w' : World) (hr : RdrL lo w' h st) => rnum_any h st nm w' hr (fun l hl => Nat.le_trans (T1.out.len l hl) (by decide))
              have HB := fun (w' : World) (hr : RRdr w' k st) => refrnum_any k st nm w' hr (fun l hl => Nat.le_trans (T1.out.len l hl) (by decide))
              generalize hx : rNum nm st = x at HL' HA HB
              clear hx
              obtain ⟨V, st'⟩ := x
              simp only at HL' HA HB
              have HA' := Lib.hid HA
              have HB' := Lib.hid HB
              have HCN : Hid (∀ w', Below w.heap.size w w' → w'.cell? ⟨b, off + j * 5 + 1, none⟩ = some (.int .u64 nm)) := fun w' hb => (HOC.out w' hb).num
              have c1 := HCN.out _ T0.out.bel
              clear HA HB
              go_wp2_with fail
              go_region_held3 (fun w' => w'.cell? ⟨b, off + j * 5 + 1, none⟩ = some (.int .u64 nm)) (first | assumption | go_keep)
                (first
                  | (go_at_call 20; refine (HA'.out _ hA0).mono ?_; rintro e w1 ⟨rfl, hA, gA⟩; have s1 := HCN.out w1 (hBelB.trans (grown_below gA T0.out.hh hA0.lt)))
                  | (go_at_call 21; refine (HB'.out _ hB0).mono ?_; rintro e w2 ⟨rfl, hB, gB⟩; have s2 := HCN.out w2 (hBelA.trans (grown_below gB T0.out.kk hB0.lt)))
                  | (go_at_call 20; refine (HA'.out _ T0.out.one).mono ?_; rintro e w1 ⟨rfl, hA, gA⟩; have hB0 := rrdr_after T0.out.two gA T0.out.ne; have hBelA := T0.out.bel.trans (grown_below gA T0.out.hh T0.out.one.lt); have s1 := HCN.out w1 hBelA)
                  | (go_at_call 21; refine (HB'.out _ T0.out.two).mono ?_; rintro e w2 ⟨rfl, hB, gB⟩; have hA0 := T0.out.one.other gB T0.out.ne T0.out.lo; have hBelB := T0.out.bel.trans (grown_below gB T0.out.kk T0.out.two.lt); have s2 := HCN.out w2 hBelB))
              go_wp2
              go_roundw
              case rel => exact ⟨j + 1, st', by omega, by go_num, T0.out.next hA gA hB gB HL'.out⟩
              case measure => simp [intOf]; omega
            · subst h0
              obtain ⟨M, hM, hmm⟩ : ∃ M : Nat, M ≤ 9223372036854775807 ∧ ((mr < 0 ∧ M = 0) ∨ mr = (M : Int)) := by
                have h := HMR.out
                by_cases h0 : mr < 0
                · exact ⟨0, by omega, .inl ⟨h0, rfl⟩⟩
                · exact ⟨mr.toNat, by omega, .inr (by omega)⟩
              have HL' := Lib.hid (rText_len M st 500 T1.out.len)
              have HA := fun (w' : World) (hr : RdrL lo w' h st) => rtext_any h st mr M hM hmm w' hr (fun l hl => Nat.le_trans (T1.out.len l hl) (by decide))
              have HB := fun (w' : World) (hr : RRdr w' k st) => refrtext_any k st mr M hM hmm w' hr (fun l hl => Nat.le_trans (T1.out.len l hl) (by decide))
              generalize hx : rText M st = x at HL' HA HB
              clear hx hmm hM
              obtain ⟨X, st'⟩ := x
              simp only at HL' HA HB
              generalize ByteArray.mk X.toArray = Y at HA HB
              have HA' := Lib.hid HA
              have HB' := Lib.hid HB
              have HCN : Hid (∀ w', Below w.heap.size w w' → w'.cell? ⟨b, off + j * 5 + 4, none⟩ = some (.int .i64 mr)) := fun w' hb => (HOC.out w' hb).more
              have c1 := HCN.out _ T0.out.bel
              clear HA HB
              go_wp2_with fail
              go_region_held3 (fun w' => w'.cell? ⟨b, off + j * 5 + 4, none⟩ = some (.int .i64 mr)) (first | assumption | go_keep)
                (first
                  | (go_at_call 22; refine (HA'.out _ hA0).mono ?_; rintro e w1 ⟨rfl, hA, gA⟩; have s1 := HCN.out w1 (hBelB.trans (grown_below gA T0.out.hh hA0.lt)))
                  | (go_at_call 23; refine (HB'.out _ hB0).mono ?_; rintro e w2 ⟨rfl, hB, gB⟩; have s2 := HCN.out w2 (hBelA.trans (grown_below gB T0.out.kk hB0.lt)))
                  | (go_at_call 22; refine (HA'.out _ T0.out.one).mono ?_; rintro e w1 ⟨rfl, hA, gA⟩; have hB0 := rrdr_after T0.out.two gA T0.out.ne; have hBelA := T0.out.bel.trans (grown_below gA T0.out.hh T0.out.one.lt); have s1 := HCN.out w1 hBelA)
                  | (go_at_call 23; refine (HB'.out _ T0.out.two).mono ?_; rintro e w2 ⟨rfl, hB, gB⟩; have hA0 := T0.out.one.other gB T0.out.ne T0.out.lo; have hBelB := T0.out.bel.trans (grown_below gB T0.out.kk T0.out.two.lt); have s2 := HCN.out w2 hBelB))
              go_wp2
              go_roundw
              case rel => exact ⟨j + 1, st', by omega, by go_num, T0.out.next hA gA hB gB HL'.out⟩
              case measure => simp [intOf]; omega
            · subst h0
              have HL' := Lib.hid (rNum_len 1 st 500 T1.out.len)
              have HA := ryes_any h st wr T1.out.one (fun l hl => Nat.le_trans (T1.out.len l hl) (by decide))
              have HB := fun (w' : World) (hr : RRdr w' k st) => refryes_any k st w' hr (fun l hl => Nat.le_trans (T1.out.len l hl) (by decide))
              have e2 : (rYes st).2 = (rNum 1 st).2 := rfl
              rw [e2] at HA
              simp only [e2] at HB
              generalize (rYes st).1 = y at HA HB
              generalize (rNum 1 st).2 = st' at HL' HA HB
              have HA' := Lib.hid HA
              have HB' := Lib.hid HB
              clear HA HB e2
              go_wp2_with fail
              refine HA'.out.mono ?_
              rintro e w1 ⟨rfl, hA, gA⟩
              have hB0 := rrdr_after T1.out.two gA T1.out.ne
              go_wp2_with fail
              refine (HB'.out w1 hB0).mono ?_
              rintro e w2 ⟨rfl, hB, gB⟩
              go_wp2
              go_roundw
              case rel => exact ⟨j + 1, st', by omega, by go_num, T1.out.next hA gA hB gB HL'.out⟩
              case measure => simp [intOf]; omega
            · have HA' := Lib.hid (rend_any h st wr T1.out.one (fun l hl => Nat.le_trans (T1.out.len l hl) (by decide)))
              have HB' := Lib.hid (refrend_any k st wr T1.out.two (fun l hl => Nat.le_trans (T1.out.len l hl) (by decide)))
              generalize rEnd st = y at HA' HB'
              go_wp2_with fail
              refine HA'.out.mono ?_
              rintro e w' ⟨rfl, rfl⟩
              go_wp2_with fail
              refine HB'.out.mono ?_
              rintro e w' ⟨rfl, rfl⟩
              go_wp2
              go_roundw
              case rel => exact ⟨j + 1, st, by omega, by go_num, T1.out⟩
              case measure => simp [intOf]; omega
          · have hsw : w.heap.size ≤ wr.heap.size := T1.out.bel.size
            clear ht
            go_wp2_with fail
            refine (told_any _).mono ?_
            rintro e w5 ⟨rfl, hb5⟩
            have HB5 := Lib.hid (T1.out.bel.trans (hb5.mono hsw))
            have HA' := Lib.hid (rend_any h st w5 (T1.out.one.below hb5) (fun l hl => Nat.le_trans (T1.out.len l hl) (by decide)))
            have HB' := Lib.hid (refrend_any k st w5 (T1.out.two.keep (hb5.block k T1.out.two.lt)) (fun l hl => Nat.le_trans (T1.out.len l hl) (by decide)))
            generalize rEnd st = y at HA' HB'
            clear hb5
            go_wp2_with fail
            refine HA'.out.mono ?_
            rintro e w' ⟨rfl, rfl⟩
            go_wp2_with fail
            refine HB'.out.mono ?_
            rintro e w' ⟨rfl, rfl⟩
            go_wp2
            go_returns
            exact ⟨rfl, HB5.out⟩

set_option maxRecDepth 100000 in
theorem lifted (os : Os) (started : os.Started) (H : Type) (enc : TypeId × Value → H) :
    ReturnsInHanded {} Try.checked os 4 .any (Rows.packReadsSpec.pre6 enc Try.prog Try.f4 Rows.packReadsRow.domain false) (Rows.packReadsSpec.post enc Try.prog Try.f4 false true false false) := by
  refine returnsInHanded_of_change (C := Try.checked) own started (by kernel_rfl) Try.func4
    (ChangeSpec.witness6 (enc := enc) (C := Try.checked) false ⟨#[], #[.slice none 0 0, .slice none 0 0], []⟩ 8 (by kernel_rfl) (by kernel_rfl) (by kernel_rfl) (by kernel_rfl)) ?_
  intro W base args ds gs before hval0 hW hcnd _
  have hval : ∀ (j : Nat) t v, Try.f4.params[j]? = some t → args[j]? = some v → Value.okWide Try.prog W .any base t v := hval0
  have hW' := hW
  obtain ⟨p, q, hA0, hV, rfl, hfz, hnd⟩ := hW
  have hA : DataW.TrodAll enc Try.prog W 0 (fun _ => true) true Try.f4.params.toList args.toList ds p := hA0
  rw [Try.params4] at hA hval
  obtain ⟨v0, vs0, d0, ds0, p0, q0, hargs, rfl, rfl, h0, r0⟩ := trodAll_cons hA
  obtain ⟨v1, vs1, d1, ds1, p1, q1, rfl, rfl, rfl, h1, r1⟩ := trodAll_cons r0
  obtain ⟨rfl, rfl, rfl⟩ := trodAll_nil r1
  obtain rfl : args = #[v0, v1] := by cases args; simp_all
  obtain ⟨rfl, rfl⟩ := trodVars_none hV
  obtain ⟨a0, len0, cap0, rfl⟩ := okWide_slice Try.underlying24 (hval 0 24 v0 rfl rfl)
  have k0 := h0
  have lt0 : ∀ x ∈ p0, x.block < W.heap.size := by obtain ⟨m, hm⟩ := k0; exact DataW.trod_lt m _ _ _ hm
  obtain ⟨l0, w0⟩ : ∃ l, Byt W W.heap.size (.slice a0 len0 cap0) l := by
    obtain ⟨fuel, hf⟩ := h0
    rcases open_ints Try.underlying24 Try.underlying5 (by kernel_rfl) hf with ⟨hcs, _⟩ | ⟨x, l, c, zs, hcs, _, hl, hm, hz, _, hcell, hwz⟩
    · simp [Value.cells] at hcs
      obtain ⟨rfl, rfl, rfl⟩ := hcs
      exact ⟨[], Byt.none _ _⟩
    · simp [Value.cells] at hcs
      obtain ⟨rfl, rfl, rfl⟩ := hcs
      obtain ⟨l, _, hb⟩ := byt_row hl hm (by simpa using hz) hcell hwz
      exact ⟨l, hb⟩
  obtain ⟨a1, len1, cap1, rfl⟩ := okWide_slice Try.underlying22 (hval 1 22 v1 rfl rfl)
  have k1 := h1
  have lt1 : ∀ x ∈ p1, x.block < W.heap.size := by obtain ⟨m, hm⟩ := k1; exact DataW.trod_lt m _ _ _ hm
  obtain ⟨l1, w1⟩ := ops_open h1
  clear hA0 hval0
  refine (walk (.slice a0 len0 cap0) l0 (.slice a1 len1 cap1) l1 W w0 w1).mono fun e W' ⟨he, bel⟩ => ?_
  subst he
  exact ⟨_, rfl, _, _, _, [], _, [], hW', trodAll_mk1 (shut_bool Try.underlying4 _), (trodAll_cons_mk (Below.trod laidOut (by kernel_rfl) (of_decide_eq_true (by kernel_rfl)) k0 bel lt0) (trodAll_cons_mk (Below.trod laidOut (by kernel_rfl) (of_decide_eq_true (by kernel_rfl)) k1 bel lt1) trodAll_mk0)), rfl, bel.frame _, fun h => by cases h⟩

theorem over : Rows.packReadsRow.holds Try.pinned (OpenSpec.ofChange Rows.packReadsSpec) :=
  OpenClaim.holds_of_wide 4 Try.f4 rfl rfl rfl rfl rfl rfl rfl ⟨rfl, rfl, rfl, rfl, rfl⟩ rfl rfl rfl rfl rfl (by kernel_rfl) Try.func4 (by kernel_rfl)
    (of_decide_eq_true (by kernel_rfl)) (by unfold Func.isWrapper; first | (rw [if_pos (by decide +kernel)]; kernel_rfl) | (rw [if_neg (by decide +kernel)]; exact ⟨rfl, rfl⟩))
    (fun os started H enc _ => lifted os started H enc)
end Go.Proofs.Ythnkipbbeiadjaa.PackReads

namespace Go.Proofs.Ythnkipbbeiadjaa
theorem packReads_holds : Rows.PackReadsSaid := PackReads.over
#print axioms packReads_holds
end Go.Proofs.Ythnkipbbeiadjaa
