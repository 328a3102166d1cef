/-
  PROVED: casebooklaw6.BookOrder answers true and leaves its arguments as they were, for any ints, any int: the row's own reading and nothing else is assumed.
-/
import Derived.Test.YtkieifkbkmdgdaaBookL
namespace Go.Proofs.Ytkieifkbkmdgdaa.BookOrder
open Go.ChangeShapes Go.WideShapes Go.ChangeAt Go.RowKit

/-- The table behind k of the keys. -/
def puts (l : List Int) : Nat → List (Int × Int)
  | 0 => []
  | k + 1 => putL (l.getD k 0) k (puts l k)
theorem puts_len (l : List Int) : ∀ k, (puts l k).length ≤ k
  | 0 => Nat.le_refl _
  | k + 1 => by have := puts_len l k; have := putL_len (l.getD k 0) k (puts l k); simp only [puts]; omega
theorem puts_low (l : List Int) (h : ∀ x ∈ l, Wf x) : ∀ k, k ≤ l.length → ∀ x ∈ puts l k, -9223372036854775808 ≤ x.1
  | 0, _, x, hx => by cases hx
  | k + 1, hk, x, hx => by
    rcases putL_mem hx with rfl | hx
    · exact (h _ (getD_mem (show k < l.length by omega))).1
    · exact puts_low l h k (by omega) x hx

set_option maxRecDepth 100000 in
set_option maxHeartbeats 1000000 in
theorem walk (v : Value) (l : List Int) (at_ : Int) (w : World) (hI : Ints w w.heap.size v l ∧ ∀ x ∈ l, Wf x) (_ : (Lit.int .i64 at_).wf = true) :
    Calls Try.prog 4 #[v, .int .i64 at_] w fun e w' => e = .returned (.bool true) ∧ Below w.heap.size w w' := by
  obtain ⟨hI, hwf⟩ := hI
  obtain ⟨ao, cap, rfl, _⟩ := id hI
  obtain ⟨n, hn⟩ : ∃ n, n = l.length := ⟨_, rfl⟩
  rw [← hn] at hI ⊢
  have HI' := Lib.hid hI
  have HL := Lib.hid hn
  have HF := Lib.hid hwf
  have HN := Lib.hid (new_o w w w.heap.size (Below.refl _ _) (Nat.le_refl _))
  have HT := Lib.hid (fun u => told6_any u)
  obtain ⟨B, hB⟩ : ∃ B, B = w.heap.size := ⟨_, rfl⟩
  have HP : Hid (∀ u k x, k ≤ 100 → x = l.getD k 0 → BkO w.heap.size w w.heap.size (puts l k) u → Calls Try.prog 8 #[.pointer (some ⟨w.heap.size, 0, none⟩), .int .i64 x, .int .i64 k] u fun e w' => (∃ y z, e = .returned (.tuple #[.int .i64 y, .bool z])) ∧ Hid (BkO w.heap.size w w.heap.size (puts l (k + 1)) w')) := by
    intro u k x hk hx h
    subst hx
    exact (put_o h (by have := puts_len l k; omega) _ _).mono fun e w' ⟨he, hb⟩ => ⟨⟨_, _, he⟩, hb⟩
  clear hI hn hwf hB
  go_enter Try.func4, Try.ntmps4
  go_wp2_with fail
  refine HN.out.mono ?_
  rintro e w1 ⟨rfl, hb⟩
  have B1 := Lib.hid hb
  clear hb
  go_wp2_with fail
  go_loopw [6] (fun vi wr => ∃ k : Nat, k ≤ n ∧ k ≤ 100 ∧ vi = .int .i64 k ∧ BkO w.heap.size w w.heap.size (puts l k) wr) (fun vi _ => 100 - (intOf vi).toNat)
  case atStart => exact ⟨0, by omega, by omega, rfl, B1.out⟩
  case round =>
    obtain ⟨k, hk, hk100, rfl, hb⟩ := hrel
    have HB := Lib.hid hb
    clear hb
    by_cases hlt : k < n ∧ k < 100
    · obtain ⟨h1, h2⟩ := hlt
      obtain ⟨b, off, rfl, hbw, hc⟩ := ints_at6 HI'.out (by omega)
      obtain ⟨x, hx⟩ : ∃ x, x = l.getD k 0 := ⟨_, rfl⟩
      have hcell : wr.cell? ⟨b, off + k, none⟩ = some (.int .i64 x) := by
        rw [hx, ← hc k h1]
        exact HB.out.bel.cell (p := ⟨b, off + k, none⟩) hbw
      have HX := Lib.hid hx
      have i0 : (0 : Int) ≤ (k : Int) := by omega
      clear hx hc hbw
      go_wp2_with (go_at_call 8; refine (HP.out _ k x hk100 HX.out HB.out).mono ?_; rintro e w2 ⟨⟨y, z, rfl⟩, HB2⟩)
      go_roundw
      case rel => exact ⟨k + 1, by omega, by omega, by go_num, HB2.out⟩
      case measure => simp [intOf]; omega
    · obtain ⟨L, hL⟩ : ∃ L, L = puts l k := ⟨_, rfl⟩
      have hlen : L.length ≤ 100 := by rw [hL]; have := puts_len l k; omega
      have hlow : ∀ x ∈ L, -9223372036854775808 ≤ x.1 := by rw [hL]; exact puts_low l HF.out k (by have := HL.out; omega)
      rw [← hL] at HB
      have hrise := HB.out.rise
      obtain ⟨m, hm⟩ : ∃ m, m = L.length := ⟨_, rfl⟩
      obtain ⟨U, hU⟩ : ∃ U, U = upL at_ L := ⟨_, rfl⟩
      obtain ⟨D, hD⟩ : ∃ D, D = downL at_ L := ⟨_, rfl⟩
      obtain ⟨s, hs⟩ : ∃ s, s = (getL at_ L).isSome := ⟨_, rfl⟩
      have KP := Lib.hid (keys_pw hrise)
      have UP := Lib.hid (up_pw hrise at_)
      have DP := Lib.hid (down_pw hrise at_)
      have UG := Lib.hid (up_ge at_ L)
      have DL := Lib.hid (down_le at_ L)
      have BL := both_len hrise at_
      rw [← hU] at UP UG
      rw [← hD] at DP DL
      rw [← hU, ← hD, ← hs, ← hm] at BL
      have hul : U.length ≤ 100 := by rw [hU]; have := upL_len at_ L; omega
      have hdl : D.length ≤ 100 := by rw [hD]; have := downL_len at_ L; omega
      have F1 : Hid (∀ u, BkO w.heap.size w w.heap.size L u → Calls Try.prog 15 #[.pointer (some ⟨w.heap.size, 0, none⟩), .int .i64 at_, .int .i64 1000] u fun e w' => ∃ ao cap, e = .returned (.slice ao U.length cap) ∧ Ints w' w'.heap.size (.slice ao U.length cap) U ∧ BkO w.heap.size w w.heap.size L w' ∧ Below u.heap.size u w') := by
        intro u hu
        have h := from_o hu (by omega) at_ 1000
        rw [← hU, List.take_of_length_le (show U.length ≤ (1000 : Int).toNat by simp; omega)] at h
        exact h
      have F2 : Hid (∀ u, BkO w.heap.size w w.heap.size L u → Calls Try.prog 17 #[.pointer (some ⟨w.heap.size, 0, none⟩), .int .i64 at_, .int .i64 1000] u fun e w' => ∃ ao cap, e = .returned (.slice ao D.length cap) ∧ Ints w' w'.heap.size (.slice ao D.length cap) D ∧ BkO w.heap.size w w.heap.size L w' ∧ Below u.heap.size u w') := by
        intro u hu
        have h := back_o hu (by omega) at_ 1000
        rw [← hD, List.take_of_length_le (show D.length ≤ (1000 : Int).toNat by simp; omega)] at h
        exact h
      have F3 : Hid (∀ u, BkO w.heap.size w w.heap.size L u → Calls Try.prog 12 #[.pointer (some ⟨w.heap.size, 0, none⟩), .int .i64 at_] u fun e w' => (∃ y, e = .returned (.tuple #[.int .i64 y, .bool s])) ∧ BkO w.heap.size w w.heap.size L w' ∧ Below u.heap.size u w') := by
        intro u hu
        exact (get_o hu at_).mono fun e w' ⟨he, hb, hw⟩ => ⟨⟨_, by rw [hs]; exact he⟩, hb, hw⟩
      have F4 : Hid (∀ u, BkO w.heap.size w w.heap.size L u → Calls Try.prog 21 #[.pointer (some ⟨w.heap.size, 0, none⟩)] u fun e w' => ∃ ao cap, e = .returned (.slice ao m cap) ∧ Ints w' w'.heap.size (.slice ao m cap) (keysL L) ∧ BkO w.heap.size w w.heap.size L w' ∧ Below u.heap.size u w') := by
        intro u hu
        have h := keys_o hu (by omega) hlow
        rwa [show (keysL L).length = m by rw [hm]; simp [keysL]] at h
      have F5 : Hid (∀ u, BkO w.heap.size w w.heap.size L u → Calls Try.prog 15 #[.pointer (some ⟨w.heap.size, 0, none⟩), .int .i64 at_, .int .i64 0] u fun e w' => ∃ ao cap, e = .returned (.slice ao 0 cap) ∧ BkO w.heap.size w w.heap.size L w') := by
        intro u hu
        refine (from_o hu (by omega) at_ 0).mono fun e w' ⟨ao, cap, he, _, hb, _⟩ => ⟨ao, cap, ?_, hb⟩
        simpa using he
      have F6 : Hid (∀ u, BkO w.heap.size w w.heap.size L u → Calls Try.prog 17 #[.pointer (some ⟨w.heap.size, 0, none⟩), .int .i64 at_, .int .i64 (-1)] u fun e w' => ∃ ao cap, e = .returned (.slice ao 0 cap) ∧ BkO w.heap.size w w.heap.size L w') := by
        intro u hu
        refine (back_o hu (by omega) at_ (-1)).mono fun e w' ⟨ao, cap, he, _, hb, _⟩ => ⟨ao, cap, ?_, hb⟩
        simpa using he
      have F7 : Hid (∀ u, BkO w.heap.size w w.heap.size L u → Calls Try.prog 15 #[.pointer (some ⟨w.heap.size, 0, none⟩), .int .i64 at_, .int .i64 1] u fun e w' => ∃ ao cap, e = .returned (.slice ao (min 1 U.length) cap) ∧ BkO w.heap.size w w.heap.size L w') := by
        intro u hu
        refine (from_o hu (by omega) at_ 1).mono fun e w' ⟨ao, cap, he, _, hb, _⟩ => ⟨ao, cap, ?_, hb⟩
        rw [← hU] at he
        simpa using he
      have HM : Hid ((keysL L).length = m) := by show _ = _; rw [hm]; simp [keysL]
      have hm100 : m ≤ 100 := by omega
      obtain ⟨nu, hnu⟩ : ∃ nu, nu = U.length := ⟨_, rfl⟩
      obtain ⟨nd, hnd⟩ : ∃ nd, nd = D.length := ⟨_, rfl⟩
      rw [← hnu] at F1 F7 BL hul
      rw [← hnd] at F2 BL hdl
      obtain ⟨mu, hmu⟩ : ∃ mu, mu = min 1 nu := ⟨_, rfl⟩
      rw [← hmu] at F7
      have HMU := Lib.hid hmu
      have HU := Lib.hid hnu
      have HD := Lib.hid hnd
      have HBL := Lib.hid BL
      clear hnu hnd hmu
      clear hrise hL hlen hlow hU hD hs hm HP HF HL BL
      have hend : n ≤ k ∨ (k < n ∧ 100 ≤ k) := by omega
      clear hlt
      rcases hend with h0 | ⟨h0, h0'⟩
      all_goals
        go_wp2_with fail
        refine (F4.out _ HB.out).mono ?_
        rintro e w2 ⟨ak, ck, rfl, hik, hb, _⟩
        have IK := Lib.hid hik
        have B2 := Lib.hid hb
        clear hik hb HB hk hk100
        try clear h0'
        clear h0
        go_wp2_with fail
        go_loopw [8] (fun vi wr => ∃ j : Nat, 1 ≤ j ∧ (j ≤ m ∨ j = 1) ∧ vi = .int .i64 j ∧ ∃ q, wr = w2.drewN q) (fun vi _ => 200 - (intOf vi).toNat)
        case atStart => exact ⟨1, by omega, by omega, rfl, 0, rfl⟩
        case round =>
          obtain ⟨j, hj1, hjm, rfl, q, hw⟩ := hrel
          have HW := Lib.hid hw
          have HR : Hid (BkO w.heap.size w w.heap.size L wr) := by show BkO _ _ _ _ _; rw [hw]; exact B2.out.drewN q
          by_cases hjl : j < m
          · obtain ⟨b, off, rfl, hbw, hc⟩ := ints_at6 IK.out (by omega)
            obtain ⟨x, hx⟩ : ∃ x, x = (keysL L).getD (j - 1) 0 := ⟨_, rfl⟩
            obtain ⟨y, hy⟩ : ∃ y, y = (keysL L).getD j 0 := ⟨_, rfl⟩
            have hxy : x < y := by rw [hx, hy]; exact pw_get KP.out (by omega) (by rw [HM.out]; exact hjl)
            obtain ⟨p, rfl⟩ : ∃ p, j = p + 1 := ⟨j - 1, by omega⟩
            have cx : wr.cell? ⟨b, off + p, none⟩ = some (.int .i64 x) := by rw [hx, hw]; exact hc p (by omega)
            have cy : wr.cell? ⟨b, off + (p + 1), none⟩ = some (.int .i64 y) := by rw [hy, hw]; exact hc (p + 1) hjl
            have i0 : (0 : Int) ≤ (p : Int) := by omega
            have i1 : (p : Int) < (m : Int) := by omega
            have sw : IntKind.i64.wrap ((p : Int) + 1 - 1) = (p : Int) := by rw [IntWalk.i64_in _ (by omega)]; omega
            have t1 : ((p : Int) + 1).toNat = p + 1 := by omega
            have i2 : (0 : Int) ≤ (p : Int) + 1 := by omega
            have i3 : (p : Int) + 1 < (m : Int) := by omega
            clear hx hy hc hbw hw
            go_wp2_with fail
            go_quiet (fail)
            go_wp2
            go_roundw
            case rel => exact ⟨p + 2, by omega, by omega, by go_num, _, by rw [HW.out]; exact World.drewN_drewN _ _ _⟩
            case measure => simp [intOf]; omega
          · clear hw HW B2 IK hj1 hjm
            clear q
            go_wp2_with fail
            refine (F1.out _ HR.out).mono ?_
            rintro e w3 ⟨au, cu, rfl, hiu, hb, _⟩
            have IU := Lib.hid hiu
            have B3 := Lib.hid hb
            clear hiu hb HR
            go_wp2_with fail
            refine (F2.out _ B3.out).mono ?_
            rintro e w4 ⟨ad, cd, rfl, hid, hb, hw4⟩
            have IU4 := Lib.hid (IU.out.keep hw4)
            have ID := Lib.hid hid
            have B4 := Lib.hid hb
            have HZ := Lib.hid hw4.size
            clear hid hb hw4 B3 IU
            go_wp2_with fail
            refine (F3.out _ B4.out).mono ?_
            rintro e w5 ⟨⟨yg, rfl⟩, hb, hw5⟩
            have IU5 := Lib.hid (((IU4.out.mono HZ.out).keep hw5))
            have ID5 := Lib.hid (ID.out.keep hw5)
            have B5 := Lib.hid hb
            clear hb hw5 B4 IU4 ID HZ
            cases s
            all_goals
              have HBM := Lib.hid HBL.out
              go_wp2_with fail
              go_loopw [14] (fun vi wr => ∃ j : Nat, j ≤ nu ∧ (vi = .int .i64 j ∧ 0 < j ∨ vi = .int .i64 0 ∧ j = 0) ∧ ∃ q, wr = w5.drewN q) (fun vi _ => 200 - (intOf vi).toNat)
              case atStart => exact ⟨0, by omega, .inr ⟨rfl, rfl⟩, 0, rfl⟩
              case round =>
                obtain ⟨j, hjn, hjv, q, hw⟩ := hrel
                have HW := Lib.hid hw
                by_cases hjl : j < nu
                · obtain ⟨b, off, rfl, hbw, hc⟩ := ints_at6 IU5.out (by omega)
                  rcases hjv with ⟨rfl, hj0⟩ | ⟨rfl, rfl⟩
                  rotate_left
                  · obtain ⟨x, hx⟩ : ∃ x, x = U.getD 0 0 := ⟨_, rfl⟩
                    have hxa : at_ ≤ x := by rw [hx]; exact UG.out _ (getD_mem (by rw [← HU.out]; exact hjl))
                    have cx : wr.cell? ⟨b, off, none⟩ = some (.int .i64 x) := by rw [hx, hw]; exact hc 0 hjl
                    have i3 : (0 : Int) < (nu : Int) := by omega
                    have d0 : decide (x < at_) = false := decide_eq_false (by omega)
                    have d1 : decide ((0 : Int) < 0) = false := by decide
                    clear hx hc hbw hw
                    go_wp2_with fail
                    go_quiet (fail)
                    go_wp2
                    go_roundw
                    case rel => exact ⟨1, by omega, .inl ⟨by go_num, by omega⟩, _, by rw [HW.out]; exact World.drewN_drewN _ _ _⟩
                    case measure => simp [intOf]
                  · obtain ⟨p, rfl⟩ : ∃ p, j = p + 1 := ⟨j - 1, by omega⟩
                    obtain ⟨x, hx⟩ : ∃ x, x = U.getD p 0 := ⟨_, rfl⟩
                    obtain ⟨y, hy⟩ : ∃ y, y = U.getD (p + 1) 0 := ⟨_, rfl⟩
                    have hxy : x < y := by rw [hx, hy]; exact pw_get UP.out (Nat.lt_succ_self p) (by rw [← HU.out]; exact hjl)
                    have hya : at_ ≤ y := by rw [hy]; exact UG.out _ (getD_mem (by rw [← HU.out]; exact hjl))
                    have cx : wr.cell? ⟨b, off + p, none⟩ = some (.int .i64 x) := by rw [hx, hw]; exact hc p (by omega)
                    have cy : wr.cell? ⟨b, off + (p + 1), none⟩ = some (.int .i64 y) := by rw [hy, hw]; exact hc (p + 1) hjl
                    have i0 : (0 : Int) ≤ (p : Int) := by omega
                    have i1 : (p : Int) < (nu : Int) := by omega
                    have sw : IntKind.i64.wrap ((p : Int) + 1 - 1) = (p : Int) := by rw [IntWalk.i64_in _ (by omega)]; omega
                    have t1 : ((p : Int) + 1).toNat = p + 1 := by omega
                    have i2 : (0 : Int) ≤ (p : Int) + 1 := by omega
                    have i3 : (p : Int) + 1 < (nu : Int) := by omega
                    have i4 : (0 : Int) < (p : Int) + 1 := by omega
                    have d0 : decide (y < at_) = false := decide_eq_false (by omega)
                    have d1 : decide ((0 : Int) < (p : Int) + 1) = true := decide_eq_true (by omega)
                    have d2 : decide (y ≤ x) = false := decide_eq_false (by omega)
                    clear hx hy hc hbw hw
                    go_wp2_with fail
                    go_quiet (fail)
                    go_wp2
                    go_roundw
                    case rel => exact ⟨p + 2, by omega, .inl ⟨by go_num, by omega⟩, _, by rw [HW.out]; exact World.drewN_drewN _ _ _⟩
                    case measure => simp [intOf]; omega
                · obtain ⟨z, hz, hzn⟩ : ∃ z : Int, u14 = .int .i64 z ∧ (nu : Int) ≤ z := by
                    rcases hjv with ⟨h, _⟩ | ⟨h, h'⟩
                    · exact ⟨j, h, by omega⟩
                    · exact ⟨0, h, by omega⟩
                  clear hjv hjl hjn
                  subst hz
                  clear hw
                  go_wp2_with fail
                  clear hzn
                  go_loopw [15] (fun vi wr => ∃ j : Nat, j ≤ nd ∧ (vi = .int .i64 j ∧ 0 < j ∨ vi = .int .i64 0 ∧ j = 0) ∧ ∃ q, wr = w5.drewN q) (fun vi _ => 200 - (intOf vi).toNat)
                  case atStart => exact ⟨0, by omega, .inr ⟨rfl, rfl⟩, q, HW.out⟩
                  case round =>
                    obtain ⟨j, hjn, hjv, q, hw⟩ := hrel
                    have HW := Lib.hid hw
                    by_cases hjl : j < nd
                    · obtain ⟨b, off, rfl, hbw, hc⟩ := ints_at6 ID5.out (by omega)
                      rcases hjv with ⟨rfl, hj0⟩ | ⟨rfl, rfl⟩
                      rotate_left
                      · obtain ⟨x, hx⟩ : ∃ x, x = D.getD 0 0 := ⟨_, rfl⟩
                        have hxa : x ≤ at_ := by rw [hx]; exact DL.out _ (getD_mem (by rw [← HD.out]; exact hjl))
                        have cx : wr.cell? ⟨b, off, none⟩ = some (.int .i64 x) := by rw [hx, hw]; exact hc 0 hjl
                        have i3 : (0 : Int) < (nd : Int) := by omega
                        have d0 : decide (at_ < x) = false := decide_eq_false (by omega)
                        have d1 : decide ((0 : Int) < 0) = false := by decide
                        clear hx hc hbw hw
                        go_wp2_with fail
                        go_quiet (fail)
                        go_wp2
                        go_roundw
                        case rel => exact ⟨1, by omega, .inl ⟨by go_num, by omega⟩, _, by rw [HW.out]; exact World.drewN_drewN _ _ _⟩
                        case measure => simp [intOf]
                      · obtain ⟨p, rfl⟩ : ∃ p, j = p + 1 := ⟨j - 1, by omega⟩
                        obtain ⟨x, hx⟩ : ∃ x, x = D.getD p 0 := ⟨_, rfl⟩
                        obtain ⟨y, hy⟩ : ∃ y, y = D.getD (p + 1) 0 := ⟨_, rfl⟩
                        have hxy : y < x := by rw [hx, hy]; exact pw_get DP.out (Nat.lt_succ_self p) (by rw [← HD.out]; exact hjl)
                        have hya : y ≤ at_ := by rw [hy]; exact DL.out _ (getD_mem (by rw [← HD.out]; exact hjl))
                        have cx : wr.cell? ⟨b, off + p, none⟩ = some (.int .i64 x) := by rw [hx, hw]; exact hc p (by omega)
                        have cy : wr.cell? ⟨b, off + (p + 1), none⟩ = some (.int .i64 y) := by rw [hy, hw]; exact hc (p + 1) hjl
                        have i0 : (0 : Int) ≤ (p : Int) := by omega
                        have i1 : (p : Int) < (nd : Int) := by omega
                        have sw : IntKind.i64.wrap ((p : Int) + 1 - 1) = (p : Int) := by rw [IntWalk.i64_in _ (by omega)]; omega
                        have t1 : ((p : Int) + 1).toNat = p + 1 := by omega
                        have i2 : (0 : Int) ≤ (p : Int) + 1 := by omega
                        have i3 : (p : Int) + 1 < (nd : Int) := by omega
                        have i4 : (0 : Int) < (p : Int) + 1 := by omega
                        have d0 : decide (at_ < y) = false := decide_eq_false (by omega)
                        have d1 : decide ((0 : Int) < (p : Int) + 1) = true := decide_eq_true (by omega)
                        have d2 : decide (x ≤ y) = false := decide_eq_false (by omega)
                        clear hx hy hc hbw hw
                        go_wp2_with fail
                        go_quiet (fail)
                        go_wp2
                        go_roundw
                        case rel => exact ⟨p + 2, by omega, .inl ⟨by go_num, by omega⟩, _, by rw [HW.out]; exact World.drewN_drewN _ _ _⟩
                        case measure => simp [intOf]; omega
                    · obtain ⟨z, hz, hzn⟩ : ∃ z : Int, u15 = .int .i64 z ∧ (nd : Int) ≤ z := by
                        rcases hjv with ⟨h, _⟩ | ⟨h, h'⟩
                        · exact ⟨j, h, by omega⟩
                        · exact ⟨0, h, by omega⟩
                      clear hjv hjl hjn
                      subst hz
                      clear hw
                      have B6 : Hid (BkO w.heap.size w w.heap.size L wr) := by show BkO _ _ _ _ _; rw [HW.out]; exact B5.out.drewN _
                      go_wp2_with fail
                      clear hzn
                      refine (HT.out _).mono ?_
                      rintro e w6 ⟨rfl, hb⟩
                      have B7 := Lib.hid (B6.out.on hb)
                      clear hb B6
                      first
                        | (have hb1 : (nu : Int) + nd ≤ m + 0 := by have := HBM.out; simp at this; omega
                           have hb2 : (m : Int) + 0 ≤ nu + nd := by have := HBM.out; simp at this; omega)
                        | (have hb1 : (nu : Int) + nd ≤ m + 1 := by have := HBM.out; simp at this; omega
                           have hb2 : (m : Int) + 1 ≤ nu + nd := by have := HBM.out; simp at this; omega)
                      go_wp2_with fail
                      refine (F5.out _ B7.out).mono ?_
                      rintro e w7 ⟨a7, c7, rfl, hb⟩
                      have B8 := Lib.hid hb
                      clear hb B7
                      go_wp2_with fail
                      refine (F6.out _ B8.out).mono ?_
                      rintro e w8 ⟨a8, c8, rfl, hb⟩
                      have B9 := Lib.hid hb
                      clear hb B8 hb1 hb2
                      rcases Nat.eq_zero_or_pos nu with hz0 | hz0
                      · obtain rfl : mu = 0 := by have := HMU.out; omega
                        subst hz0
                        go_wp2_with fail
                        refine (F7.out _ B9.out).mono ?_
                        rintro e w9 ⟨a9, c9, rfl, hb⟩
                        have B10 := Lib.hid hb.bel
                        clear hb B9
                        go_wp2
                        go_returns
                        exact ⟨rfl, B10.out⟩
                      · obtain rfl : mu = 1 := by have := HMU.out; omega
                        have n1 : (1 : Int) ≤ nu := by omega
                        clear hz0
                        go_wp2_with fail
                        refine (F7.out _ B9.out).mono ?_
                        rintro e w9 ⟨a9, c9, rfl, hb⟩
                        have B10 := Lib.hid hb.bel
                        clear hb B9
                        go_wp2
                        go_returns
                        exact ⟨rfl, B10.out⟩

set_option maxRecDepth 100000 in
theorem lifted (os : Os) (started : os.Started) (H : Type) (enc : TypeId × Value → H) :
    ReturnsInHanded {} Try.checked os 4 .any (Rows.bookOrderSpec.pre6 enc Try.prog Try.f4 Rows.bookOrderRow.domain false) (Rows.bookOrderSpec.post enc Try.prog Try.f4 false true false false) := by
  refine returnsInHanded_of_change (C := Try.checked) own started (by kernel_rfl) Try.func4
    (ChangeSpec.witness6 (enc := enc) (C := Try.checked) false ⟨#[], #[.slice none 0 0, .int .i64 0], []⟩ 8 (by kernel_rfl) (by kernel_rfl) (by kernel_rfl) (by kernel_rfl)) ?_
  intro W base args ds gs before hval0 hW hcnd _
  have hval : ∀ (j : Nat) t v, Try.f4.params[j]? = some t → args[j]? = some v → Value.okWide Try.prog W .any base t v := hval0
  have hW' := hW
  obtain ⟨p, q, hA0, hV, rfl, hfz, hnd⟩ := hW
  have hA : DataW.TrodAll enc Try.prog W 0 (fun _ => true) true Try.f4.params.toList args.toList ds p := hA0
  rw [Try.params4] at hA hval
  obtain ⟨v0, vs0, d0, ds0, p0, q0, hargs, rfl, rfl, h0, r0⟩ := trodAll_cons hA
  obtain ⟨v1, vs1, d1, ds1, p1, q1, rfl, rfl, rfl, h1, r1⟩ := trodAll_cons r0
  obtain ⟨rfl, rfl, rfl⟩ := trodAll_nil r1
  obtain rfl : args = #[v0, v1] := by cases args; simp_all
  obtain ⟨rfl, rfl⟩ := trodVars_none hV
  obtain ⟨a0, len0, cap0, rfl⟩ := okWide_slice Try.underlying26 (hval 0 26 v0 rfl rfl)
  have k0 := h0
  have lt0 : ∀ x ∈ p0, x.block < W.heap.size := by obtain ⟨m, hm⟩ := k0; exact DataW.trod_lt m _ _ _ hm
  obtain ⟨l0, w0⟩ := wints_open h0
  obtain ⟨a1, rfl, rfl, rfl, w1⟩ := open_int Try.underlying3 (hval 1 3 v1 rfl rfl) h1
  clear hA0 hval0
  refine (walk (.slice a0 len0 cap0) l0 a1 W w0 w1).mono fun e W' ⟨he, bel⟩ => ?_
  subst he
  exact ⟨_, rfl, _, _, _, [], _, [], hW', trodAll_mk1 (shut_bool Try.underlying4 _), (trodAll_cons_mk (Below.trod laidOut (by kernel_rfl) (of_decide_eq_true (by kernel_rfl)) k0 bel lt0) (trodAll_cons_mk (shut_int Try.underlying3 w1) trodAll_mk0)), rfl, bel.frame _, fun h => by cases h⟩

theorem over : Rows.bookOrderRow.holds Try.pinned (OpenSpec.ofChange Rows.bookOrderSpec) :=
  OpenClaim.holds_of_wide 4 Try.f4 rfl rfl rfl rfl rfl rfl rfl ⟨rfl, rfl, rfl, rfl, rfl⟩ rfl rfl rfl rfl rfl (by kernel_rfl) Try.func4 (by kernel_rfl)
    (of_decide_eq_true (by kernel_rfl)) (by unfold Func.isWrapper; first | (rw [if_pos (by decide +kernel)]; kernel_rfl) | (rw [if_neg (by decide +kernel)]; exact ⟨rfl, rfl⟩))
    (fun os started H enc _ => lifted os started H enc)
end Go.Proofs.Ytkieifkbkmdgdaa.BookOrder

namespace Go.Proofs.Ytkieifkbkmdgdaa
theorem bookOrder_holds : Rows.BookOrderSaid := BookOrder.over
#print axioms bookOrder_holds
end Go.Proofs.Ytkieifkbkmdgdaa
