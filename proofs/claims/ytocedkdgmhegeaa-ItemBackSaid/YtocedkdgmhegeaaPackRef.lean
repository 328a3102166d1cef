/-
  THE REFERENCE'S READER: wrong, Num, Text, Yes, End behind any calls, each as the same plain function as the program's own. No condition but lengths.
-/
import Derived.Test.YtocedkdgmhegeaaPackQ
import Derived.Deep.RegionWith
import Derived.Deep.RegionHeld3
import Derived.Deep.QuietTactic
import Derived.BigQuiet
namespace Go.Proofs.Ytocedkdgmhegeaa
open Go.RowKit

/-- Block h is the reference's reader: 'some l': it is right and l is left; 'none': it is wrong. -/
def RRdr (w : World) (h : Nat) : Option (List UInt8) → Prop
  | some l => ∃ e, w.heap[h]? = some (.cells #[.string ⟨l.toArray⟩, .bool false] e (0, 0))
  | none => ∃ e, w.heap[h]? = some (.cells #[.string ⟨#[]⟩, .bool true] e (0, 0))

theorem RRdr.lt {w : World} {h : Nat} {st : Option (List UInt8)} (hR : RRdr w h st) : h < w.heap.size := by
  cases st with
  | some l => obtain ⟨_, hb⟩ := hR; exact lt_of_block hb
  | none => obtain ⟨_, hb⟩ := hR; exact lt_of_block hb

theorem RRdr.keep {w w' : World} {h : Nat} {st : Option (List UInt8)} (hR : RRdr w h st) (hb : w'.heap[h]? = w.heap[h]?) : RRdr w' h st := by
  cases st with
  | some l => obtain ⟨e, h1⟩ := hR; exact ⟨e, hb.trans h1⟩
  | none => obtain ⟨e, h1⟩ := hR; exact ⟨e, hb.trans h1⟩

set_option maxHeartbeats 400000 in
theorem refrwrong_any (h : Nat) (S : ByteArray) (bad : Bool) (e0 : TypeId) (w : World) (hb : w.heap[h]? = some (.cells #[.string S, .bool bad] e0 (0, 0))) :
    Calls Try.prog 50 #[.pointer (some ⟨h, 0, none⟩)] w fun e w' => e = .returned (.tuple #[]) ∧ RRdr w' h none ∧ w.grownBy w' (some h) := by
  have f0 := free_of_two hb 0
  have f1 := free_of_two hb 1
  have c0 := cell_of_two0 hb
  have c1 := cell_of_two1 hb
  have HB := Lib.hid hb
  clear hb
  go_enter Try.func50, Try.ntmps50
  go_wp2
  go_returns
  exact ⟨rfl, ⟨_, two_setCell0 (two_setCell1 HB.out)⟩, grownBy_trans (grownBy_setCell _ _ _ _) (grownBy_setCell _ _ _ _)⟩

theorem below_grown {w w' : World} (h : Below w.heap.size w w') (row : Option Nat) : w.grownBy w' row :=
  ⟨h.os, h.tape, h.output, h.size, fun k hk _ => h.block k hk⟩

theorem take_eq (l : List UInt8) (J n : Nat) (h : numAt 0 0 l = some (J, n)) : l.take n = Lib.uvarint J := (numAt_zero l J n h).1
theorem take_ne (l : List UInt8) (J n : Nat) (hJ : J < 18446744073709551616) (h : numAt 0 0 l = none) : l.take n ≠ Lib.uvarint J := by
  intro e
  have h1 := numAt_uvarint J hJ (l.drop n)
  rw [← e, List.take_append_drop, h] at h1
  cases h1

theorem and127 (m : Nat) (h : m < 256) : bits .and .u64 (m : Int) 127 = ((m % 128 : Nat) : Int) := by
  have := u64_and_nat m 127 (by omega) (by decide)
  rw [nat_mask7] at this
  exact this

set_option maxHeartbeats 2000000 in
set_option maxRecDepth 100000 in
theorem refrnum_some (h : Nat) (l : List UInt8) (most : Nat) (w : World) (hR : RRdr w h (some l)) (hm : l.length ≤ 1000) :
    Calls Try.prog 38 #[.pointer (some ⟨h, 0, none⟩), .int .u64 most] w fun e w' => e = .returned (.int .u64 (rNum most (some l)).1) ∧ RRdr w' h (rNum most (some l)).2 ∧ w.grownBy w' (some h) := by
  obtain ⟨e0, hb⟩ := hR
  have c0 := cell_of_two0 hb
  have c1 := cell_of_two1 hb
  have f0 := free_of_two hb 0
  have f1 := free_of_two hb 1
  have HB := Lib.hid hb
  have hsz : (ByteArray.mk l.toArray).size = l.length := List.size_toArray
  obtain ⟨n, hn⟩ : ∃ n, n = l.length := ⟨_, rfl⟩
  have HN := Lib.hid hn
  obtain ⟨S, hS⟩ : ∃ S, S = ByteArray.mk l.toArray := ⟨_, rfl⟩
  rw [← hS] at c0 hsz HB
  rw [← hn] at hm hsz
  have HSZ := Lib.hid hsz
  have HSE := Lib.hid hS
  have hmn : S.size ≤ 1000 := by omega
  clear hb hsz hn hS
  go_enter Try.func38, Try.ntmps38
  go_wp2
  go_loop [5, 6] (fun vx vi => ∃ k acc : Nat, vi = .int .i64 k ∧ vx = .int .u64 acc ∧ k ≤ 9 ∧ k ≤ S.size ∧ acc < 2 ^ (7 * k) ∧ numAt 0 0 l = numAt k acc (l.drop k))
    (fun _ vi => S.size - (intOf vi).toNat)
  case atStart => exact ⟨0, 0, rfl, rfl, by omega, by omega, by decide, rfl⟩
  case round =>
    obtain ⟨k, acc, rfl, rfl, hk9, hkn, hacc, hdec⟩ := hrel
    have hk10 : k < 10 := by omega
    by_cases hk : k < S.size
    · have hdrop : l.drop k = S[k] :: l.drop (k + 1) := by
        have h1 := HSE.out
        subst h1
        exact List.drop_eq_getElem_cons _
      rw [hdrop] at hdec
      simp only [numAt] at hdec
      have hc256 := (S[k]).toNat_lt
      obtain ⟨m, hrw⟩ : ∃ m, (S[k]).toNat = m := ⟨_, rfl⟩
      rw [hrw] at hdec hc256
      have hand := and127 m (by omega)
      clear hdrop
      by_cases h9 : k = 9 ∧ 1 < m
      · rw [if_pos h9] at hdec
        have HE : Hid (rNum most (some l) = (0, none)) := by show _ = _; simp only [rNum, hdec]
        obtain ⟨rfl, h1⟩ := h9
        clear hdec hacc hand
        go_wp2_with fail
        refine (refrwrong_any h _ _ _ _ HB.out).mono ?_
        rintro e w1 ⟨rfl, h1, h2⟩
        go_wp2
        go_returns
        rw [HE.out]
        exact ⟨rfl, h1, h2⟩
      · rw [if_neg h9] at hdec
        have h9' : k = 9 → m ≤ 1 := fun h => by
          rcases Nat.lt_or_ge 1 m with h' | h'
          · exact absurd ⟨h, h'⟩ h9
          · omega
        have hj := or_join k acc (m % 128) hk9 hacc (by omega) (fun h => by have := h9' h; omega)
        obtain ⟨J, hJ⟩ : ∃ J, J = acc + m % 128 * 2 ^ (7 * k) := ⟨_, rfl⟩
        rw [← hJ] at hj hdec
        have HO : Hid (bits .or .u64 (acc : Int) (IntKind.u64.wrap ((m : Int) % 128 * 2 ^ (7 * k))) = (J : Int)) := hj.1
        have HH := Lib.hid hj.2
        have HJ := Lib.hid hJ
        have HD := Lib.hid hdec
        have H9 := Lib.hid h9'
        clear hj hdec hJ h9 hacc h9'
        by_cases hA : 128 ≤ m
        · have hk9' : k < 9 := by
            rcases (show k < 9 ∨ k = 9 by omega) with h | h
            · exact h
            · have := H9.out h; omega
          go_wp2_with fail
          go_round
          case rel => exact ⟨k + 1, J, by go_num, by rw [HO.out], by omega, by omega, HH.out.1, by rw [HD.out, if_pos hA]⟩
          case measure => simp [intOf]; omega
        · have hJ2 : numAt 0 0 l = if m = 0 ∧ 0 < k then none else some (J, k + 1) := by
            rw [HD.out, if_neg hA, HJ.out, Nat.mod_eq_of_lt (by omega)]
          have hext : S.extract 0 (k + 1) = ByteArray.mk (l.take (k + 1)).toArray := by
            rw [HSE.out]
            apply ByteArray.ext
            simp
          have HEXT := Lib.hid hext
          have HJ2 := Lib.hid hJ2
          have hcase : k < 9 ∨ (9 ≤ k ∧ m ≤ 1) := by
            rcases (show k < 9 ∨ k = 9 by omega) with h | h
            · exact .inl h
            · exact .inr ⟨by omega, H9.out h⟩
          clear hext hJ2
          refine Or.elim hcase ?lo ?hi
          case' lo =>
            intro hk9'
            clear hcase
            go_wp2_with fail
            rw [HO.out]
          case' hi =>
            rintro ⟨hk9', hm1⟩
            clear hcase
            have hb9 : ((k : Int) == 9) = true := by simp; omega
            have hm2 : ¬ 1 < m := by omega
            go_wp2_with fail
            rw [HO.out]
          all_goals
            clear hand hrw hc256
            have hd0 : w.drew.cell? ⟨h, 0, none⟩ = some (.string S) := c0
            by_cases hJm : J ≤ most
            · have hgt : ¬ most < J := by omega
              have HCN := Lib.hid (refnum_any J HH.out.2)
              have t1 : (0 : Int) ≤ (k : Int) + 1 := by omega
              have t2 : (k : Int) + 1 ≤ (S.size : Int) := by omega
              by_cases hz : m = 0 ∧ 0 < k
              · have hJ2 := HJ2.out
                rw [if_pos hz] at hJ2
                have HE : Hid (rNum most (some l) = (0, none)) := by show _ = _; simp only [rNum, hJ2]
                obtain ⟨T, hT⟩ : ∃ T, S.extract 0 (k + 1) = T := ⟨_, rfl⟩
                have hne : (Lib.uvarint J == T.toList) = false := by
                  rw [← hT, HEXT.out]
                  have e2 : (ByteArray.mk (l.take (k + 1)).toArray).toList = l.take (k + 1) := ByteArray.toList_mk _
                  rw [e2]
                  exact beq_eq_false_iff_ne.2 (take_ne l J (k + 1) HH.out.2 hJ2).symm
                clear hJ2 hz
                have t3 : ((k : Int) + 1).toNat = k + 1 := by omega
                have t4 : IntKind.i64.wrap ((k : Int) + 1) = (k : Int) + 1 := IntWalk.i64_in _ (by omega)
                go_region_held3 (fun w' => w'.cell? ⟨h, 0, none⟩ = some (.string S)) (first | assumption | go_keep) (first | (go_at_call 32; refine (HCN.out _).mono ?_; rintro e w1 ⟨rfl, hb1⟩; have hbl : w1.heap[h]? = w.heap[h]? := hb1.block h (lt_of_block HB.out); have HB1 := Lib.hid (hbl.trans HB.out); have HBB : Hid (Below w.heap.size w w1) := (Below.refl _ w).drew.trans hb1; have d0 := cell_of_two0 HB1.out; have d1 := cell_of_two1 HB1.out; have q0 := free_of_two HB1.out 0; have q1 := free_of_two HB1.out 1; clear hb1 hbl))
                clear t1 t2 t3 t4
                go_wp2_with fail
                refine (refrwrong_any h _ _ _ _ HB1.out).mono ?_
                rintro e w2 ⟨rfl, h1, h2⟩
                go_wp2
                go_returns
                rw [HE.out]
                exact ⟨rfl, h1, grownBy_trans (below_grown HBB.out _) h2⟩
              · have hJ2 := HJ2.out
                rw [if_neg hz] at hJ2
                have HE : Hid (rNum most (some l) = (J, some (l.drop (k + 1)))) := by show _ = _; simp only [rNum, hJ2, if_pos hJm]
                have hext := HEXT.out
                rw [take_eq l J (k + 1) hJ2] at hext
                have HX : Hid (S.extract (k + 1) S.size = ByteArray.mk (l.drop (k + 1)).toArray) := by
                  show _ = _
                  rw [HSE.out]
                  apply ByteArray.ext
                  have h1 : (ByteArray.mk l.toArray).size = l.length := List.size_toArray
                  rw [h1]
                  simp
                  rw [List.take_of_length_le (by simp)]
                clear hJ2 hz
                have t3 : ((k : Int) + 1).toNat = k + 1 := by omega
                have t4 : IntKind.i64.wrap ((k : Int) + 1) = (k : Int) + 1 := IntWalk.i64_in _ (by omega)
                go_region_held3 (fun w' => w'.cell? ⟨h, 0, none⟩ = some (.string S)) (first | assumption | go_keep) (first | (go_at_call 32; refine (HCN.out _).mono ?_; rintro e w1 ⟨rfl, hb1⟩; have hbl : w1.heap[h]? = w.heap[h]? := hb1.block h (lt_of_block HB.out); have HB1 := Lib.hid (hbl.trans HB.out); have HBB : Hid (Below w.heap.size w w1) := (Below.refl _ w).drew.trans hb1; have d0 := cell_of_two0 HB1.out; have d1 := cell_of_two1 HB1.out; have q0 := free_of_two HB1.out 0; have q1 := free_of_two HB1.out 1; clear hb1 hbl))
                clear t1 t2 t3 t4 hext
                go_wp2
                go_returns
                rw [HE.out, HX.out]
                exact ⟨rfl, ⟨_, two_setCell0 HB1.out⟩, grownBy_trans (below_grown HBB.out _) (grownBy_setCell _ _ _ _)⟩
            · have hgt : most < J := by omega
              have HE : Hid (rNum most (some l) = (0, none)) := by
                show _ = _
                simp only [rNum, HJ2.out]
                split
                · rfl
                · rename_i x hx
                  split at hx
                  · cases hx
                  · obtain rfl := Option.some.inj hx
                    rw [if_neg hJm]
              go_quiet (fail)
              go_wp2_with fail
              refine (refrwrong_any h S false e0 _ (by exact HB.out)).mono ?_
              rintro e w2 ⟨rfl, h1, h2⟩
              go_wp2
              go_returns
              rw [HE.out]
              exact ⟨rfl, h1, grownBy_trans (below_grown (below_drewN (Below.refl _ w) _) _) h2⟩
    · have HE : Hid (rNum most (some l) = (0, none)) := by
        show _ = _
        have : numAt 0 0 l = none := by rw [hdec, List.drop_eq_nil_of_le (by rw [← HN.out, ← HSZ.out]; omega)]; rfl
        simp only [rNum, this]
      clear hdec hacc
      go_wp2_with fail
      refine (refrwrong_any h _ _ _ _ HB.out).mono ?_
      rintro e w1 ⟨rfl, h1, h2⟩
      go_wp2
      go_returns
      rw [HE.out]
      exact ⟨rfl, h1, h2⟩
end Go.Proofs.Ytocedkdgmhegeaa
