/-
  PROVED: casebooklaw1.PackBack answers true and leaves its arguments as they were, for every slice of things and every number that can be read: the row's own reading and nothing else is assumed.
-/
import Derived.Test.YthnkipbbeiadjaaPackThings
import Derived.Deep.RegionHeld3
namespace Go.Proofs.Ythnkipbbeiadjaa.PackBack
open Go.ChangeShapes Go.WideShapes Go.ChangeAt Go.RowKit

theorem rdrl_drew {lo : Nat} {w : World} {h : Nat} {st : Option (List UInt8)} (hR : RdrL lo w h st) : RdrL lo w.drew h st := by cases st <;> exact hR

theorem rNum_len' (M : Nat) (st : Option (List UInt8)) (b : Nat) (hm : ∀ l, st = some l → l.length ≤ b) : ∀ l, (rNum M st).2 = some l → l.length ≤ b := by
  intro l hl
  cases st with
  | none => simp [rNum] at hl
  | some l0 =>
    simp only [rNum] at hl
    split at hl
    · cases hl
    · split at hl
      · simp only [Option.some.injEq] at hl
        subst hl
        have := hm l0 rfl
        simp; omega
      · cases hl

theorem rText_len' (M : Nat) (st : Option (List UInt8)) (b : Nat) (hm : ∀ l, st = some l → l.length ≤ b) : ∀ l, (rText M st).2 = some l → l.length ≤ b := by
  intro l hl
  have h1 := rNum_len' M st b hm
  unfold rText at hl
  generalize rNum M st = x at hl h1
  obtain ⟨n, st1⟩ := x
  cases st1 with
  | none => simp [rTextOf] at hl
  | some l0 =>
    simp only [rTextOf] at hl
    split at hl
    · simp only [Option.some.injEq] at hl
      subst hl
      have := h1 l0 rfl
      simp; omega
    · cases hl

set_option maxHeartbeats 8000000 in
set_option maxRecDepth 1000000 in
theorem walk (v : Value) (L : List OpV) (at0 : Int) (w : World) (hL : Ops w w.heap.size v L) (_ : (Lit.int .i64 at0).wf = true) :
    Calls Try.prog 5 #[v, .int .i64 at0] w fun e w' => e = .returned (.bool true) ∧ Below w.heap.size w w' := by
  obtain ⟨ao, cap, rfl, hm, hfit, hcells⟩ := hL
  unfold maxLen at hm
  by_cases h40 : L.length = 0 ∨ 20 < L.length
  · clear hcells hfit
    have hd : (((L.length : Nat) : Int) == 0) = true ∨ (((L.length : Nat) : Int) == 0) = false ∧ 20 < L.length := by
      rcases h40 with h | h
      · left; simp [h]
      · right; exact ⟨by rw [beq_eq_false_iff_ne]; omega, h⟩
    clear h40
    rcases hd with h | ⟨h, h'⟩
    all_goals
      go_enter Try.func5, Try.ntmps5
      go_wp2_with (go_at_call 11; refine (told_any _).mono ?_; rintro e w' ⟨rfl, hb⟩)
      go_returns
      exact ⟨rfl, by assumption⟩
  · obtain ⟨n, hn⟩ : ∃ n, n = L.length := ⟨_, rfl⟩
    rw [← hn] at h40 hm ⊢
    have hn20 : n ≤ 20 := by omega
    have hn0 : 0 < n := by omega
    have hnz : ((n : Int) == 0) = false := by rw [beq_eq_false_iff_ne]; omega
    obtain ⟨A, hA⟩ : ∃ A : Nat, IntKind.u64.wrap at0 = (A : Int) := ⟨(IntKind.u64.wrap at0).toNat, by rw [IntKind.wrap_u64]; omega⟩
    have HA := Lib.hid hA
    have HN := Lib.hid hn
    have HC := Lib.hid hcells
    have HF := Lib.hid hfit
    have hW0 := Lib.hid (Wrt.fresh w 26)
    clear hcells hfit hn h40 hm hA
    go_enter Try.func5, Try.ntmps5
    go_wp2
    go_loopw [6] (fun vi wr => ∃ (k : Nat) (X : List UInt8), k ≤ n ∧ vi = .int .i64 k ∧ X = things (L.take k) ∧ X.length ≤ 110 * k ∧ (∀ o ∈ L.take k, o.str.size ≤ 100) ∧ Wrt wr w.heap.size X ∧ Below w.heap.size w wr)
      (fun vi _ => n - (intOf vi).toNat)
    case atStart => exact ⟨0, [], by omega, rfl, rfl, by simp, by simp, hW0.out, (Below.refl _ _).alloc (Nat.le_refl _) _⟩
    case round =>
      obtain ⟨k, X, hk, rfl, hX, hXl, hsm, hWr, hnx⟩ := hrel
      have HX := Lib.hid hX
      have HNX := Lib.hid hnx
      have HWR := Lib.hid hWr
      have HSM := Lib.hid hsm
      clear hX hWr hsm
      by_cases hkn : k < n
      · have hkL : k < L.length := by rw [← HN.out]; exact hkn
        obtain ⟨b, off, rfl, hbw, hcc⟩ := HC.out (fun e => by rw [e] at hkL; simp at hkL)
        have hc := (hcc k hkL).keep hnx hbw
        have hfo := HF.out _ (List.getElem_mem hkL)
        have HT := Lib.hid (things_take L k hkL)
        have HTK : Hid (L.take (k + 1) = L.take k ++ [L[k]]) := List.take_succ_eq_append_getElem hkL
        clear hcc hnx
        generalize L[k] = o at hc hfo HT HTK
        obtain ⟨kd, nm, st, ys, mr⟩ := o
        have HOC := Lib.hid hc
        have HNM : Hid (nm < 18446744073709551616) := hfo.1
        have hst : st.size ≤ 9223372036854775807 := hfo.2.1
        have c0 := hc.kind
        have c2 := hc.str
        simp only at c0 c2
        clear hc hfo hkL
        by_cases h300 : 100 < st.size
        · go_wp2_with (go_at_call 11; refine (told_any _).mono ?_; rintro e w' ⟨rfl, hb⟩)
          go_returns
          exact ⟨rfl, HNX.out.trans ((by assumption : Below wr.heap.size wr _).mono HNX.out.size)⟩
        · have hst3 : st.size ≤ 100 := by omega
          have HSM' : Hid (∀ o ∈ L.take (k + 1), o.str.size ≤ 100) := by
            intro o ho
            rw [HTK.out] at ho
            rcases List.mem_append.1 ho with ho | ho
            · exact HSM.out o ho
            · obtain rfl := List.mem_singleton.1 ho
              exact hst3
          clear hst h300
          rcases (show kd = 0 ∨ kd = 1 ∨ (kd ≠ 0 ∧ kd ≠ 1) by omega) with h0 | h1 | ⟨h0, h1⟩
          · have HB : Hid (things (L.take (k + 1)) = X ++ Lib.uvarint nm) := by
              show _ = _
              rw [HT.out, ← HX.out]; unfold thing; rw [if_pos h0]
            subst h0
            have c1 := HOC.out.num
            simp only at c1
            have hul := Lib.uvarint_length64 HNM.out
            have hC := Lib.hid (wnum_any w.heap.size nm HNM.out X wr HWR.out (by omega))
            go_wp2_with fail
            refine hC.out.mono ?_
            rintro e w1 ⟨rfl, hW1, hb1⟩
            have HNX1 := Lib.hid (HNX.out.trans hb1)
            have HW1 := Lib.hid hW1
            clear hb1 hW1 c0 c1 c2 hC
            go_wp2
            go_roundw
            case rel => exact ⟨k + 1, X ++ Lib.uvarint nm, by omega, by go_num, HB.out.symm, by rw [List.length_append]; omega, HSM'.out, HW1.out, HNX1.out⟩
            case measure => simp [intOf]; omega
          · have HB : Hid (things (L.take (k + 1)) = X ++ (Lib.uvarint st.size ++ st.data.toList)) := by
              show _ = _
              rw [HT.out, ← HX.out]; unfold thing; rw [if_neg (show ¬ kd = 0 by omega), if_pos h1]
            subst h1
            have hul : (Lib.uvarint st.size).length ≤ 10 := Lib.uvarint_length64 (by omega)
            have hsl : st.data.toList.length = st.size := by rw [Array.length_toList]; rfl
            have hC := Lib.hid (wtext_any w.heap.size st X wr HWR.out (by omega))
            have HSL : Hid ((X ++ (Lib.uvarint st.size ++ st.data.toList)).length ≤ 110 * (k + 1)) := by show _ ≤ _; rw [List.length_append, List.length_append, hsl]; omega
            clear hsl
            go_wp2_with fail
            refine hC.out.mono ?_
            rintro e w1 ⟨rfl, hW1, hb1⟩
            have HNX1 := Lib.hid (HNX.out.trans hb1)
            rw [List.append_assoc] at hW1
            have HW1 := Lib.hid hW1
            clear hb1 hW1 c0 c2 hC
            go_wp2
            go_roundw
            case rel => exact ⟨k + 1, X ++ (Lib.uvarint st.size ++ st.data.toList), by omega, by go_num, HB.out.symm, HSL.out, HSM'.out, HW1.out, HNX1.out⟩
            case measure => simp [intOf]; omega
          · have HB : Hid (things (L.take (k + 1)) = X ++ [if ys then 1 else 0]) := by
              show _ = _
              rw [HT.out, ← HX.out]; unfold thing; rw [if_neg h0, if_neg h1]
            have c3 := HOC.out.yes
            simp only at c3
            have hC := Lib.hid (wyes_any w.heap.size ys X wr HWR.out (by omega))
            have HSL : Hid ((X ++ [if ys then (1 : UInt8) else 0]).length ≤ 110 * (k + 1)) := by show _ ≤ _; rw [List.length_append, List.length_singleton]; omega
            go_wp2_with fail
            refine hC.out.mono ?_
            rintro e w1 ⟨rfl, hW1, hb1⟩
            have HNX1 := Lib.hid (HNX.out.trans hb1)
            have HW1 := Lib.hid hW1
            clear hb1 hW1 c0 c2 c3 hC
            go_wp2
            go_roundw
            case rel => exact ⟨k + 1, _, by omega, by go_num, HB.out.symm, HSL.out, HSM'.out, HW1.out, HNX1.out⟩
            case measure => simp [intOf]; omega
      · have hkn' : k = n := by omega
        subst hkn'
        have HLT : Hid (L.take k = L) := List.take_of_length_le (by rw [← HN.out]; exact Nat.le_refl _)
        have hXL : X = things L := by rw [HX.out, HLT.out]
        have hX0 : 0 < X.length := by rw [hXL]; exact things_pos L (by rw [← HN.out]; exact hn0)
        have hX2 : X.length ≤ 2200 := by omega
        have HXL := Lib.hid hXL
        have HSML : Hid (∀ o ∈ L, o.str.size ≤ 100) := by have := HSM.out; rwa [HLT.out] at this
        have hsw : w.heap.size ≤ wr.heap.size := HNX.out.size
        have hC := Lib.hid (wbytes_any w.heap.size X wr HWR.out (by omega))
        clear hnx hkn hk hXl hXL HX HSM
        go_wp2_with fail
        refine hC.out.mono ?_
        rintro e w3 ⟨v3, rfl, hown3, hb3⟩
        have hw3 := hb3.size
        obtain ⟨g, cap3, rfl⟩ : ∃ g cap, v3 = .slice (some ⟨g, 0, none⟩) X.length cap := by
          rcases hown3.2 with ⟨_, h0⟩ | ⟨g, cap, cur, rfl, _⟩
          · omega
          · exact ⟨g, cap, rfl⟩
        have HBY := Lib.hid (byt_own hown3 (Nat.le_refl _))
        have HB3 := Lib.hid (HNX.out.trans (hb3.mono hsw))
        have hs3 : w.heap.size ≤ w3.heap.size := HB3.out.size
        have hz : ((X.length : Int) == 0) = false := by rw [beq_eq_false_iff_ne]; omega
        obtain ⟨c, hc, hcX⟩ : ∃ c : Nat, (A : Int) % (X.length : Int) = (c : Int) ∧ c < X.length := ⟨A % X.length, (Int.natCast_emod A X.length).symm, Nat.mod_lt _ hX0⟩
        have hA := HA.out
        clear hown3 hb3 hC HWR HNX
        go_wp2
        go_loopw [9] (fun vk wr => ∃ q : Nat, q ≤ 2 ∧ vk = .int .i64 q ∧ Below w3.heap.size w3 wr) (fun vk _ => 2 - (intOf vk).toNat)
        case atStart => exact ⟨0, by omega, rfl, Below.refl _ _⟩
        case round =>
          obtain ⟨q, hq, rfl, hbr⟩ := hrel
          clear hA hc
          obtain ⟨wo, hwo⟩ : ∃ wo : World, wo = wr := ⟨_, rfl⟩
          subst hwo
          have HBR := Lib.hid hbr
          have hsr : w3.heap.size ≤ wo.heap.size := hbr.size
          clear hbr
          rcases (show q = 0 ∨ q = 1 ∨ q = 2 by omega) with rfl | rfl | rfl
          · go_wp2_with fail
            refine (new_any _ w3.heap.size X wo (HBY.out.keep HBR.out) hsr (by omega)).mono ?_
            rintro e w4 ⟨h, rfl, hge, hR, hb⟩
            have HB4 := Lib.hid (HBR.out.trans (hb.mono hsr))
            have hs4 : w3.heap.size ≤ w4.heap.size := HB4.out.size
            clear hb
            have hw3h : w3.heap.size ≤ h := by omega
            have HR0 : Hid (RdrL wo.heap.size w4 h (some (things (L.drop 0)))) := by rw [HXL.out] at hR; exact hR
            clear hR
            go_wp2
            go_loopw [11] (fun vj wr => ∃ j : Nat, j ≤ k ∧ vj = .int .i64 j ∧ RdrL wo.heap.size wr h (some (things (L.drop j))) ∧ (things (L.drop j)).length ≤ 2200 ∧ Below w3.heap.size w3 wr) (fun vj _ => k - (intOf vj).toNat)
            case atStart => exact ⟨0, by omega, rfl, HR0.out, by rw [List.drop_zero, ← HXL.out]; exact hX2, HB4.out⟩
            case round =>
              obtain ⟨j, hj, rfl, hR, hlen, hbi⟩ := hrel
              have HR := Lib.hid hR
              have hlt7 : h < wr.heap.size := hR.lt
              have hwh7 : w3.heap.size ≤ h := hw3h
              have HBI := Lib.hid hbi
              have hnx : Below w.heap.size w wr := HB3.out.trans (hbi.mono hs3)
              have HLEN := Lib.hid hlen
              clear hR hbi hlen 
              by_cases hjn : j < k
              · have hjL : j < L.length := by rw [← HN.out]; exact hjn
                obtain ⟨b, off, rfl, hbw, hcc⟩ := HC.out (fun e => by rw [e] at hjL; simp at hjL)
                have hc0 := hcc j hjL
                have hfo := HF.out _ (List.getElem_mem hjL)
                have hso := HSML.out _ (List.getElem_mem hjL)
                have HTD := Lib.hid (things_drop L j hjL)
                clear hcc
                generalize L[j] = o at hc0 hfo hso HTD
                obtain ⟨kd, nm, sv, ys, mr⟩ := o
                have HOC : Hid (∀ w', Below w3.heap.size w3 w' → OpCells w' b (off + j * 5) ⟨kd, nm, sv, ys, mr⟩) := fun w' hb => hc0.keep (HB3.out.trans (hb.mono hs3)) hbw
                have HNM : Hid (nm < 18446744073709551616) := hfo.1
                have hsv : sv.size ≤ 100 := hso
                have c0 := (HOC.out _ HBI.out).kind
                simp only at c0
                have b1 : (0 : Int) ≤ (j : Int) := by omega
                have b2 : (j : Int) < (k : Int) := by omega
                clear hc0 hfo hjL hso hnx
                rcases (show kd = 0 ∨ kd = 1 ∨ (kd ≠ 0 ∧ kd ≠ 1) by omega) with h0 | h1 | ⟨h0, h1⟩
                · subst h0
                  have hsp : rNum 18446744073709551615 (some (things (L.drop j))) = (nm, some (things (L.drop (j + 1)))) := by
                    rw [HTD.out]
                    unfold thing; rw [if_pos rfl]
                    exact num_full _ nm HNM.out (by have := HNM.out; omega) _
                  have HLN : Hid ((things (L.drop (j + 1))).length ≤ 2200) := by
                    have h := HLEN.out
                    rw [HTD.out, List.length_append] at h
                    show _ ≤ _
                    omega
                  have HA0 := fun (w' : World) (hr : RdrL wo.heap.size w' h (some (things (L.drop j)))) => rnum_any h (some (things (L.drop j))) 18446744073709551615 w' hr (fun l hl => by cases hl; have := HLEN.out; omega)
                  simp only [hsp] at HA0
                  have HAA := Lib.hid HA0
                  clear HA0 hsp
                  have HCN : Hid (∀ w', Below w3.heap.size w3 w' → w'.cell? ⟨b, off + j * 5 + 1, none⟩ = some (.int .u64 nm)) := fun w' hb => (HOC.out w' hb).num
                  have c1 := HCN.out _ HBI.out.drew
                  go_wp2_with fail
                  go_region_held3 (fun w' => w'.cell? ⟨b, off + j * 5 + 1, none⟩ = some (.int .u64 nm)) (first | assumption | go_keep) (first | (go_at_call 20; refine (HAA.out _ (rdrl_drew HR.out)).mono ?_; rintro e w7 ⟨rfl, hR7, hg7⟩; have s7 := HCN.out w7 ((HBI.out.drew).trans (grown_below hg7 hwh7 hlt7))))
                  have HB7 := Lib.hid ((HBI.out.drew).trans (grown_below hg7 hwh7 hlt7))
                  have HR7 := Lib.hid hR7
                  clear hR7 hg7
                  go_wp2
                  go_roundw
                  case rel => exact ⟨j + 1, by omega, by go_num, HR7.out, HLN.out, HB7.out⟩
                  case measure => simp [intOf]; omega
                · subst h1
                  have hsp : rText 100 (some (things (L.drop j))) = (sv.data.toList, some (things (L.drop (j + 1)))) := by
                    rw [HTD.out]
                    unfold thing; rw [if_neg (show ¬ ((1 : Int) = 0) by decide), if_pos rfl]
                    have hsl : sv.data.toList.length = sv.size := by rw [Array.length_toList]; rfl
                    rw [← hsl]; exact text_full _ _ (by rw [hsl]; exact hsv)
                  have HLN : Hid ((things (L.drop (j + 1))).length ≤ 2200) := by
                    have h := HLEN.out
                    rw [HTD.out, List.length_append] at h
                    show _ ≤ _
                    omega
                  have HA0 := fun (w' : World) (hr : RdrL wo.heap.size w' h (some (things (L.drop j)))) => rtext_any h (some (things (L.drop j))) 100 100 (by decide) (.inr rfl) w' hr (fun l hl => by cases hl; have := HLEN.out; omega)
                  simp only [hsp] at HA0
                  have HAA := Lib.hid HA0
                  clear HA0 hsp
                  have HCN : Hid (∀ w', Below w3.heap.size w3 w' → w'.cell? ⟨b, off + j * 5 + 2, none⟩ = some (.string sv)) := fun w' hb => (HOC.out w' hb).str
                  have c1 := HCN.out _ HBI.out.drew
                  go_wp2_with fail
                  go_region_held3 (fun w' => w'.cell? ⟨b, off + j * 5 + 2, none⟩ = some (.string sv)) (first | assumption | go_keep) (first | (go_at_call 22; refine (HAA.out _ (rdrl_drew HR.out)).mono ?_; rintro e w7 ⟨rfl, hR7, hg7⟩; have s7 := HCN.out w7 ((HBI.out.drew).trans (grown_below hg7 hwh7 hlt7))))
                  have HB7 := Lib.hid ((HBI.out.drew).trans (grown_below hg7 hwh7 hlt7))
                  have HR7 := Lib.hid hR7
                  clear hR7 hg7
                  go_wp2
                  go_roundw
                  case rel => exact ⟨j + 1, by omega, by go_num, HR7.out, HLN.out, HB7.out⟩
                  case measure => simp [intOf]; omega
                · skip
                  have hsp : rYes (some (things (L.drop j))) = (ys, some (things (L.drop (j + 1)))) := by
                    rw [HTD.out]
                    unfold thing; rw [if_neg h0, if_neg h1]
                    exact yes_full ys _
                  have HLN : Hid ((things (L.drop (j + 1))).length ≤ 2200) := by
                    have h := HLEN.out
                    rw [HTD.out, List.length_append] at h
                    show _ ≤ _
                    omega
                  have HA0 := fun (w' : World) (hr : RdrL wo.heap.size w' h (some (things (L.drop j)))) => ryes_any h (some (things (L.drop j))) w' hr (fun l hl => by cases hl; have := HLEN.out; omega)
                  simp only [hsp] at HA0
                  have HAA := Lib.hid HA0
                  clear HA0 hsp
                  have HCN : Hid (∀ w', Below w3.heap.size w3 w' → w'.cell? ⟨b, off + j * 5 + 3, none⟩ = some (.bool ys)) := fun w' hb => (HOC.out w' hb).yes
                  have c1 := HCN.out _ HBI.out.drew
                  go_wp2_with fail
                  go_region_held3 (fun w' => w'.cell? ⟨b, off + j * 5 + 3, none⟩ = some (.bool ys)) (first | assumption | go_keep) (first | (go_at_call 24; refine (HAA.out _ (rdrl_drew HR.out)).mono ?_; rintro e w7 ⟨rfl, hR7, hg7⟩; have s7 := HCN.out w7 ((HBI.out.drew).trans (grown_below hg7 hwh7 hlt7))))
                  have HB7 := Lib.hid ((HBI.out.drew).trans (grown_below hg7 hwh7 hlt7))
                  have HR7 := Lib.hid hR7
                  clear hR7 hg7
                  go_wp2
                  go_roundw
                  case rel => exact ⟨j + 1, by omega, by go_num, HR7.out, HLN.out, HB7.out⟩
                  case measure => simp [intOf]; omega
              · have hst : things (L.drop j) = [] := by rw [List.drop_eq_nil_of_le (by rw [← HN.out]; omega)]; rfl
                have HRE : Hid (RdrL wo.heap.size wr h (some [])) := by have := HR.out; rwa [hst] at this
                have HEE := Lib.hid (rend_ok h wr HRE.out)
                clear hst hnx
                go_wp2_with fail
                refine HEE.out.mono ?_
                rintro e w' ⟨rfl, rfl⟩
                go_wp2
                go_roundw
                case rel => exact ⟨1, by omega, by go_num, HBI.out⟩
                case measure => simp [intOf]
          · go_wp2_with fail
            refine (new_any _ w3.heap.size X wo (HBY.out.keep HBR.out) hsr (by omega)).mono ?_
            rintro e w4 ⟨h, rfl, hge, hR, hb⟩
            have HB4 := Lib.hid (HBR.out.trans (hb.mono hsr))
            have hs4 : w3.heap.size ≤ w4.heap.size := HB4.out.size
            clear hb
            clear hR
            have hct : c ≤ X.length := by omega
            have hcc' : (c : Int) ≤ (cap3 : Int) := by
              obtain ⟨ao, cp, he, h1, _⟩ := HBY.out
              simp only [Value.slice.injEq] at he
              obtain ⟨_, _, rfl⟩ := he
              omega
            have hc0' : (0 : Int) ≤ (c : Int) := by omega
            have hBT : Byt w4 w3.heap.size (.slice (some ⟨g, 0, none⟩) c cap3) (X.take c) := byt_take (HBY.out.keep HB4.out) hct
            have HBT := Lib.hid hBT
            clear hBT
            go_wp2_with fail
            refine (new_any _ w3.heap.size (X.take c) w4 HBT.out hs4 (by rw [List.length_take]; omega)).mono ?_
            rintro e w5 ⟨h5, rfl, hge5, hR5, hb5⟩
            have HB5 := Lib.hid (HB4.out.trans (hb5.mono hs4))
            have hw3h : w3.heap.size ≤ h5 := by omega
            have HR0 := Lib.hid hR5
            have HCUT : Hid (Cut L 0 (some (X.take c))) := .inr ⟨X.take c, X.drop c, rfl, fun e => by have := congrArg List.length e; simp at this; omega, by rw [List.take_append_drop, List.drop_zero]; exact HXL.out⟩
            have HTL : Hid ((X.take c).length ≤ 2200) := by show _ ≤ _; rw [List.length_take]; omega
            clear hR5 hb5
            go_wp2
            go_loopw [11] (fun vj wr => ∃ (j : Nat) (st : Option (List UInt8)), j ≤ k ∧ vj = .int .i64 j ∧ RdrL w4.heap.size wr h5 st ∧ Cut L j st ∧ (∀ l, st = some l → l.length ≤ 2200) ∧ Below w3.heap.size w3 wr) (fun vj _ => k - (intOf vj).toNat)
            case atStart => exact ⟨0, _, by omega, rfl, HR0.out, HCUT.out, fun l hl => by cases hl; exact HTL.out, HB5.out⟩
            case round =>
              obtain ⟨j, st, hj, rfl, hR, hcut, hlen, hbi⟩ := hrel
              have HR := Lib.hid hR
              have hlt7 : h5 < wr.heap.size := hR.lt
              have hwh7 : w3.heap.size ≤ h5 := hw3h
              have HBI := Lib.hid hbi
              have hnx : Below w.heap.size w wr := HB3.out.trans (hbi.mono hs3)
              have HCU := Lib.hid hcut
              have HLEN := Lib.hid hlen
              clear hR hbi hlen hcut
              by_cases hjn : j < k
              · have hjL : j < L.length := by rw [← HN.out]; exact hjn
                obtain ⟨b, off, rfl, hbw, hcc⟩ := HC.out (fun e => by rw [e] at hjL; simp at hjL)
                have hc0 := hcc j hjL
                have hfo := HF.out _ (List.getElem_mem hjL)
                have hso := HSML.out _ (List.getElem_mem hjL)
                have HTD := Lib.hid (things_drop L j hjL)
                have HSTEP := Lib.hid (fun f a b c => cut_step (i := j) hjL f a b c HCU.out)
                clear hcc
                generalize L[j] = o at hc0 hfo hso HTD HSTEP
                obtain ⟨kd, nm, sv, ys, mr⟩ := o
                have HOC : Hid (∀ w', Below w3.heap.size w3 w' → OpCells w' b (off + j * 5) ⟨kd, nm, sv, ys, mr⟩) := fun w' hb => hc0.keep (HB3.out.trans (hb.mono hs3)) hbw
                have HNM : Hid (nm < 18446744073709551616) := hfo.1
                have hsv : sv.size ≤ 100 := hso
                have c0 := (HOC.out _ HBI.out).kind
                simp only at c0
                have b1 : (0 : Int) ≤ (j : Int) := by omega
                have b2 : (j : Int) < (k : Int) := by omega
                clear hc0 hfo hjL hso hnx
                rcases (show kd = 0 ∨ kd = 1 ∨ (kd ≠ 0 ∧ kd ≠ 1) by omega) with h0 | h1 | ⟨h0, h1⟩
                · subst h0
                  have HLN : Hid (∀ l, (rNum 18446744073709551615 st).2 = some l → l.length ≤ 2200) := rNum_len' 18446744073709551615 st 2200 HLEN.out
                  have HCN' : Hid (Cut L (j + 1) (rNum 18446744073709551615 st).2) := HSTEP.out (fun s => (rNum 18446744073709551615 s).2) rfl (by
                    intro r
                    unfold thing; rw [if_pos rfl]
                    show (rNum 18446744073709551615 (some _)).2 = _
                    rw [num_full _ nm HNM.out (by have := HNM.out; omega)]) (by
                    intro p q hq hpq
                    unfold thing at hpq
                    rw [if_pos rfl] at hpq
                    show (rNum 18446744073709551615 (some _)).2 = _
                    rw [num_cut _ nm HNM.out p q hq hpq])
                  have HA0 := fun (w' : World) (hr : RdrL w4.heap.size w' h5 st) => rnum_any h5 st 18446744073709551615 w' hr (fun l hl => by have := HLEN.out l hl; omega)
                  generalize rNum 18446744073709551615 st = x at HLN HCN' HA0
                  obtain ⟨V, st'⟩ := x
                  simp only at HLN HCN' HA0
                  skip
                  have HAA := Lib.hid HA0
                  clear HA0
                  have HCN : Hid (∀ w', Below w3.heap.size w3 w' → w'.cell? ⟨b, off + j * 5 + 1, none⟩ = some (.int .u64 nm)) := fun w' hb => (HOC.out w' hb).num
                  have c1 := HCN.out _ HBI.out.drew
                  go_wp2_with fail
                  go_region_held3 (fun w' => w'.cell? ⟨b, off + j * 5 + 1, none⟩ = some (.int .u64 nm)) (first | assumption | go_keep) (first | (go_at_call 20; refine (HAA.out _ (rdrl_drew HR.out)).mono ?_; rintro e w7 ⟨rfl, hR7, hg7⟩; have s7 := HCN.out w7 ((HBI.out.drew).trans (grown_below hg7 hwh7 hlt7))))
                  have HB7 := Lib.hid ((HBI.out.drew).trans (grown_below hg7 hwh7 hlt7))
                  have HR7 := Lib.hid hR7
                  clear hR7 hg7
                  go_wp2
                  go_roundw
                  case rel => exact ⟨j + 1, st', by omega, by go_num, HR7.out, HCN'.out, HLN.out, HB7.out⟩
                  case measure => simp [intOf]; omega
                · subst h1
                  have HLN : Hid (∀ l, (rText 100 st).2 = some l → l.length ≤ 2200) := rText_len' 100 st 2200 HLEN.out
                  have HCN' : Hid (Cut L (j + 1) (rText 100 st).2) := HSTEP.out (fun s => (rText 100 s).2) rfl (by
                    intro r
                    unfold thing; rw [if_neg (show ¬ ((1 : Int) = 0) by decide), if_pos rfl]
                    show (rText 100 (some _)).2 = _
                    have hsl : sv.data.toList.length = sv.size := by rw [Array.length_toList]; rfl
                    rw [← hsl, text_full _ _ (by rw [hsl]; exact hsv)]) (by
                    intro p q hq hpq
                    unfold thing at hpq
                    rw [if_neg (show ¬ ((1 : Int) = 0) by decide), if_pos rfl] at hpq
                    show (rText 100 (some _)).2 = _
                    have hsl : sv.data.toList.length = sv.size := by rw [Array.length_toList]; rfl
                    rw [← hsl] at hpq
                    rw [text_cut sv.data.toList p q (by rw [hsl]; exact hsv) hq hpq])
                  have HA0 := fun (w' : World) (hr : RdrL w4.heap.size w' h5 st) => rtext_any h5 st 100 100 (by decide) (.inr rfl) w' hr (fun l hl => by have := HLEN.out l hl; omega)
                  generalize rText 100 st = x at HLN HCN' HA0
                  obtain ⟨V, st'⟩ := x
                  simp only at HLN HCN' HA0
                  generalize ByteArray.mk V.toArray = Y at HA0
                  have HAA := Lib.hid HA0
                  clear HA0
                  have HCN : Hid (∀ w', Below w3.heap.size w3 w' → w'.cell? ⟨b, off + j * 5 + 2, none⟩ = some (.string sv)) := fun w' hb => (HOC.out w' hb).str
                  have c1 := HCN.out _ HBI.out.drew
                  go_wp2_with fail
                  go_region_held3 (fun w' => w'.cell? ⟨b, off + j * 5 + 2, none⟩ = some (.string sv)) (first | assumption | go_keep) (first | (go_at_call 22; refine (HAA.out _ (rdrl_drew HR.out)).mono ?_; rintro e w7 ⟨rfl, hR7, hg7⟩; have s7 := HCN.out w7 ((HBI.out.drew).trans (grown_below hg7 hwh7 hlt7))))
                  have HB7 := Lib.hid ((HBI.out.drew).trans (grown_below hg7 hwh7 hlt7))
                  have HR7 := Lib.hid hR7
                  clear hR7 hg7
                  go_wp2
                  go_roundw
                  case rel => exact ⟨j + 1, st', by omega, by go_num, HR7.out, HCN'.out, HLN.out, HB7.out⟩
                  case measure => simp [intOf]; omega
                · skip
                  have HLN : Hid (∀ l, (rYes st).2 = some l → l.length ≤ 2200) := rNum_len' 1 st 2200 HLEN.out
                  have HCN' : Hid (Cut L (j + 1) (rYes st).2) := HSTEP.out (fun s => (rYes s).2) rfl (by
                    intro r
                    unfold thing; rw [if_neg h0, if_neg h1]
                    show (rYes (some _)).2 = _
                    rw [yes_full ys _]) (by
                    intro p q hq hpq
                    unfold thing at hpq
                    rw [if_neg h0, if_neg h1] at hpq
                    show (rYes (some _)).2 = _
                    rw [yes_cut _ p q hq hpq])
                  have HA0 := fun (w' : World) (hr : RdrL w4.heap.size w' h5 st) => ryes_any h5 st w' hr (fun l hl => by have := HLEN.out l hl; omega)
                  generalize rYes st = x at HLN HCN' HA0
                  obtain ⟨V, st'⟩ := x
                  simp only at HLN HCN' HA0
                  skip
                  have HAA := Lib.hid HA0
                  clear HA0
                  have HCN : Hid (∀ w', Below w3.heap.size w3 w' → w'.cell? ⟨b, off + j * 5 + 3, none⟩ = some (.bool ys)) := fun w' hb => (HOC.out w' hb).yes
                  have c1 := HCN.out _ HBI.out.drew
                  go_wp2_with fail
                  go_region_held3 (fun w' => w'.cell? ⟨b, off + j * 5 + 3, none⟩ = some (.bool ys)) (first | assumption | go_keep) (first | (go_at_call 24; refine (HAA.out _ (rdrl_drew HR.out)).mono ?_; rintro e w7 ⟨rfl, hR7, hg7⟩; have s7 := HCN.out w7 ((HBI.out.drew).trans (grown_below hg7 hwh7 hlt7))))
                  have HB7 := Lib.hid ((HBI.out.drew).trans (grown_below hg7 hwh7 hlt7))
                  have HR7 := Lib.hid hR7
                  clear hR7 hg7
                  go_wp2
                  go_roundw
                  case rel => exact ⟨j + 1, st', by omega, by go_num, HR7.out, HCN'.out, HLN.out, HB7.out⟩
                  case measure => simp [intOf]; omega
              · have hst : st = none := cut_end (L := L) (by have h := HCU.out; have e : j = L.length := by rw [← HN.out]; omega
                                                             rwa [e] at h)
                have HRE : Hid (RdrL w4.heap.size wr h5 none) := by have := HR.out; rwa [hst] at this
                have HEE := Lib.hid (rend_bad h5 wr HRE.out)
                clear hst hnx
                go_wp2_with fail
                refine HEE.out.mono ?_
                rintro e w' ⟨rfl, rfl⟩
                go_wp2
                go_roundw
                case rel => exact ⟨2, by omega, by go_num, HBI.out⟩
                case measure => simp [intOf]
          · go_wp2_with (go_at_call 11; refine (told_any _).mono ?_; rintro e w5 ⟨rfl, hb5⟩)
            go_returns
            exact ⟨rfl, (HB3.out.trans (HBR.out.mono hs3)).trans ((by assumption : Below wo.heap.size wo _).mono (by omega))⟩

set_option maxRecDepth 100000 in
theorem lifted (os : Os) (started : os.Started) (H : Type) (enc : TypeId × Value → H) :
    ReturnsInHanded {} Try.checked os 5 .any (Rows.packBackSpec.pre6 enc Try.prog Try.f5 Rows.packBackRow.domain false) (Rows.packBackSpec.post enc Try.prog Try.f5 false true false false) := by
  refine returnsInHanded_of_change (C := Try.checked) own started (by kernel_rfl) Try.func5
    (ChangeSpec.witness6 (enc := enc) (C := Try.checked) false ⟨#[], #[.slice none 0 0, .int .i64 0], []⟩ 8 (by kernel_rfl) (by kernel_rfl) (by kernel_rfl) (by kernel_rfl)) ?_
  intro W base args ds gs before hval0 hW hcnd _
  have hval : ∀ (j : Nat) t v, Try.f5.params[j]? = some t → args[j]? = some v → Value.okWide Try.prog W .any base t v := hval0
  have hW' := hW
  obtain ⟨p, q, hA0, hV, rfl, hfz, hnd⟩ := hW
  have hA : DataW.TrodAll enc Try.prog W 0 (fun _ => true) true Try.f5.params.toList args.toList ds p := hA0
  rw [Try.params5] at hA hval
  obtain ⟨v0, vs0, d0, ds0, p0, q0, hargs, rfl, rfl, h0, r0⟩ := trodAll_cons hA
  obtain ⟨v1, vs1, d1, ds1, p1, q1, rfl, rfl, rfl, h1, r1⟩ := trodAll_cons r0
  obtain ⟨rfl, rfl, rfl⟩ := trodAll_nil r1
  obtain rfl : args = #[v0, v1] := by cases args; simp_all
  obtain ⟨rfl, rfl⟩ := trodVars_none hV
  obtain ⟨a0, len0, cap0, rfl⟩ := okWide_slice Try.underlying22 (hval 0 22 v0 rfl rfl)
  have k0 := h0
  have lt0 : ∀ x ∈ p0, x.block < W.heap.size := by obtain ⟨m, hm⟩ := k0; exact DataW.trod_lt m _ _ _ hm
  obtain ⟨l0, w0⟩ := ops_open h0
  obtain ⟨a1, rfl, rfl, rfl, w1⟩ := open_int Try.underlying3 (hval 1 3 v1 rfl rfl) h1
  clear hA0 hval0
  refine (walk (.slice a0 len0 cap0) l0 a1 W w0 w1).mono fun e W' ⟨he, bel⟩ => ?_
  subst he
  exact ⟨_, rfl, _, _, _, [], _, [], hW', trodAll_mk1 (shut_bool Try.underlying4 _), (trodAll_cons_mk (Below.trod laidOut (by kernel_rfl) (of_decide_eq_true (by kernel_rfl)) k0 bel lt0) (trodAll_cons_mk (shut_int Try.underlying3 w1) trodAll_mk0)), rfl, bel.frame _, fun h => by cases h⟩

theorem over : Rows.packBackRow.holds Try.pinned (OpenSpec.ofChange Rows.packBackSpec) :=
  OpenClaim.holds_of_wide 5 Try.f5 rfl rfl rfl rfl rfl rfl rfl ⟨rfl, rfl, rfl, rfl, rfl⟩ rfl rfl rfl rfl rfl (by kernel_rfl) Try.func5 (by kernel_rfl)
    (of_decide_eq_true (by kernel_rfl)) (by unfold Func.isWrapper; first | (rw [if_pos (by decide +kernel)]; kernel_rfl) | (rw [if_neg (by decide +kernel)]; exact ⟨rfl, rfl⟩))
    (fun os started H enc _ => lifted os started H enc)
end Go.Proofs.Ythnkipbbeiadjaa.PackBack

namespace Go.Proofs.Ythnkipbbeiadjaa
theorem packBack_holds : Rows.PackBackSaid := PackBack.over
#print axioms packBack_holds
end Go.Proofs.Ythnkipbbeiadjaa
