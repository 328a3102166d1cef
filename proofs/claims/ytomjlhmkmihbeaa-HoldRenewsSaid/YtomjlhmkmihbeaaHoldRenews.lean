/-
  PROVED: casebooklaw16.HoldRenews answers true and leaves its argument as it was, for any ints: the row's own reading and nothing else is assumed.
-/
import Derived.Test.YtomjlhmkmihbeaaClockArgs
import Derived.Test.YtomjlhmkmihbeaaHdT
namespace Go.Proofs.Ytomjlhmkmihbeaa.HoldRenews
open Go.ChangeShapes Go.WideShapes Go.ChangeAt Go.RowKit

/-- What is so of the questions so far: none of epoch 6, none later than now. -/
structure Ren (N : Nat) (qs : Nat → QV) : Prop where
  ep : ∀ j, (qs j).ep ≠ 6
  le : ∀ j, (qs j).asked ≤ (N : Int)
theorem Ren.up {N : Nat} {qs : Nat → QV} (h : Ren N qs) (k : Nat) {q : QV} (h1 : q.ep ≠ 6) (h2 : q.asked ≤ (N : Int)) : Ren N (upQ qs k q) := by
  constructor
  · intro j
    unfold upQ
    split
    · exact h1
    · exact h.ep j
  · intro j
    unfold upQ
    split
    · exact h2
    · exact h.le j
theorem Ren.later {N M : Nat} {qs : Nat → QV} (h : Ren N qs) (hM : N ≤ M) : Ren M qs := ⟨h.ep, fun j => by have := h.le j; omega⟩
/-- The questions behind one more that two told. -/
def qR (r : Nat) (qs : Nat → QV) (N : Int) : Nat → QV := upQ qs (r % 4) ⟨N, 5, fun x => if x = 1 then true else if x = 0 then true else false⟩
def qR1 (r : Nat) (qs : Nat → QV) (N : Int) : Nat → QV := upQ qs (r % 4) ⟨N, 5, fun x => if x = 0 then true else false⟩
theorem place_of (r : Nat) : (((r : Int) + 1 - 1) % 4).toNat = r % 4 := by omega
theorem up_up (qs : Nat → QV) (k : Nat) (q q' : QV) : upQ (upQ qs k q) k q' = upQ qs k q' := by
  funext j
  unfold upQ
  split <;> rfl
theorem up_at (qs : Nat → QV) (k : Nat) (q : QV) : upQ qs k q k = q := by unfold upQ; rw [if_pos rfl]
theorem tell_first (r : Nat) (qs : Nat → QV) (N : Int) : upQ (upQ qs (r % 4) (.new N 5)) (((r : Int) + 1 - 1) % 4).toNat (((upQ qs (r % 4) (.new N 5)) (((r : Int) + 1 - 1) % 4).toNat).tell (0 : Int).toNat) = qR1 r qs N := by
  rw [place_of, up_up, up_at]
  rfl
theorem tell_second (r : Nat) (qs : Nat → QV) (N : Int) : upQ (qR1 r qs N) (((r : Int) + 1 - 1) % 4).toNat (((qR1 r qs N) (((r : Int) + 1 - 1) % 4).toNat).tell (1 : Int).toNat) = qR r qs N := by
  unfold qR1
  rw [place_of, up_up, up_at]
  rfl
theorem may_tell (r : Nat) (qs : Nat → QV) (k : Int) (h0 : 0 ≤ k) (h3 : k < 3) : tellB 3 (r + 1) qs ((r : Int) + 1) k = true :=
  decide_eq_true ⟨by omega, by omega, by rw [place_of, show (r + 1 - 1) % 4 = r % 4 by omega]⟩
theorem last_in (r : Nat) : r % 4 < min (r + 1) 4 := by omega
theorem valid5 (r : Nat) (qs : Nat → QV) (N k : Nat) (hk : k < 20) : validB 3 (r + 1) (qR r qs (N : Int)) ((N : Int) + (k : Int)) 5 = true := by
  refine decide_eq_true ⟨r % 4, last_in r, ?_⟩
  unfold qR
  rw [up_at]
  exact decide_eq_true ⟨rfl, (by show mostV 3 ≤ ((cntF (fun x => if x = 1 then true else if x = 0 then true else false) 5 : Nat) : Int); decide), by show (N : Int) ≤ _; omega, by show _ < (N : Int) + 20; omega⟩
theorem valid6 (r : Nat) {N : Nat} {qs : Nat → QV} (h : Ren N qs) (t : Int) : validB 3 r qs t 6 = false :=
  decide_eq_false fun ⟨j, _, hj⟩ => h.ep j (of_decide_eq_true hj).1
theorem valid_end (r : Nat) {N : Nat} {qs : Nat → QV} (h : Ren N qs) : validB 3 r qs ((N : Int) + 20) 5 = false :=
  decide_eq_false fun ⟨j, _, hj⟩ => by
    have h1 := (of_decide_eq_true hj).2.2.2
    have h2 := h.le j
    omega
theorem ren_R {r N : Nat} {qs : Nat → QV} (h : Ren N qs) : Ren N (qR r qs (N : Int)) := h.up _ (by show (5 : Int) ≠ 6; decide) (Int.le_refl _)
theorem ren_zero : Ren 0 noQ := ⟨fun _ => by show (0 : Int) ≠ 6; decide, fun _ => Int.le_refl _⟩

set_option maxRecDepth 100000 in
set_option maxHeartbeats 1000000 in
theorem main (a : Option Addr) (len c : Nat) (l : List Int) (w : World) (hI : Ints w w.heap.size (.slice a len c) l) :
    Calls Try.prog 7 #[.slice a len c] w fun e w' => e = .returned (.bool true) ∧ Below w.heap.size w w' := by
  have HT := Lib.hid (fun u => told16_any u)
  obtain ⟨_, _, hv, hcap, hmax, _, hcells⟩ := hI
  cases hv
  obtain ⟨len, hl⟩ : ∃ len, len = l.length := ⟨_, rfl⟩
  obtain ⟨n, hn⟩ : ∃ n, n = w.heap.size := ⟨_, rfl⟩
  rw [← hl] at hcap ⊢
  rw [← hn] at hcells ⊢
  have HN : Hid (Calls Try.prog 12 #[.int .i64 3] w fun e w' => ∃ p, e = .returned (.tuple #[.pointer (some ⟨p, 0, none⟩), .int .i64 0]) ∧ Hid (LO n w p 3 0 noQ w' ∧ Below w.heap.size w w')) :=
    lo_new 3 w (by decide) (by decide) (Below.refl _ _) (Nat.le_of_eq hn)
  have HL := Lib.hid hl
  have HC := Lib.hid hcells
  clear hcells hl hcap hmax hn
  go_enter Try.func7, Try.ntmps7
  go_wp2_with fail
  refine HN.out.mono ?_
  rintro e w1 ⟨b, rfl, H1⟩
  have S0 := Lib.hid H1.out.1
  clear H1 HN
  go_wp2_with fail
  go_loopw [5, 6] (fun s5 s6 wr => ∃ (i N : Nat) (qs : Nat → QV), s5 = .int .i64 N ∧ s6 = .int .i64 i ∧ i ≤ 30 ∧ N ≤ 20 * i ∧ Hid (Ren N qs) ∧ Hid (LO n w b 3 i qs wr)) (fun _ s6 _ => 30 - (intOf s6).toNat)
  case atStart => exact ⟨0, 0, noQ, rfl, rfl, Nat.zero_le _, Nat.zero_le _, ren_zero, S0.out⟩
  case round =>
    clear S0
    obtain ⟨i, N, qs, rfl, rfl, hi, hN, HF, HS⟩ := hrel
    by_cases hlt : i < len ∧ i < 30
    · obtain ⟨hl1, hl2⟩ := hlt
      obtain ⟨xb, off, rfl, hxb, hc⟩ := HC.out (List.length_pos_iff.1 (by have := HL.out; omega))
      have hq := hc i (by have := HL.out; omega)
      clear hc
      generalize l.getD i 0 = x at hq
      have HQC : Hid (∀ u, Below n w u → u.cell? ⟨xb, off + i, none⟩ = some (.int .i64 x)) := fun u hu => (hu.cell (p := ⟨xb, off + i, none⟩) hxb).trans hq
      have i1 : (i : Int) < (len : Int) := by omega
      have i0 : (0 : Int) ≤ (i : Int) := by omega
      have i2 : (i : Int) < 30 := by omega
      obtain ⟨p, hp, et⟩ := left_of x 20 (by decide) (by decide)
      have HET : Hid (wrap64 ((IntKind.u64.wrap x).tmod 20) = (p : Int)) := et
      have HP := Lib.hid hp
      have HA : Hid (∀ u, LO n w b 3 i qs u → Calls Try.prog 13 #[.pointer (some ⟨b, 0, none⟩), .int .i64 N, .int .i64 5] u fun e w' => e = .returned (.int .i64 ((i : Int) + 1)) ∧ Hid (LO n w b 3 (i + 1) (upQ qs (i % 4) (.new N 5)) w' ∧ KHd u w')) := fun u hu =>
        hu.ask (by omega) N 5 (decide_eq_true ⟨by omega, by omega, fun _ => HF.out.le _⟩) rfl
      have HT1 : Hid (∀ u, LO n w b 3 (i + 1) (upQ qs (i % 4) (.new N 5)) u → Calls Try.prog 14 #[.pointer (some ⟨b, 0, none⟩), .int .i64 ((i : Int) + 1), .int .i64 0] u fun e w' => e = .returned (.bool true) ∧ Hid (LO n w b 3 (i + 1) (qR1 i qs N) w' ∧ KHd u w')) := fun u hu =>
        hu.tell (by omega) _ 0 (may_tell _ _ _ (by decide) (by decide)) (tell_first i qs N)
      have HT2 : Hid (∀ u, LO n w b 3 (i + 1) (qR1 i qs N) u → Calls Try.prog 14 #[.pointer (some ⟨b, 0, none⟩), .int .i64 ((i : Int) + 1), .int .i64 1] u fun e w' => e = .returned (.bool true) ∧ Hid (LO n w b 3 (i + 1) (qR i qs N) w' ∧ KHd u w')) := fun u hu =>
        hu.tell (by omega) _ 1 (may_tell _ _ _ (by decide) (by decide)) (tell_second i qs N)
      have HV5 : Hid (∀ u (k : Nat), k < 20 → LO n w b 3 (i + 1) (qR i qs N) u → Calls Try.prog 16 #[.pointer (some ⟨b, 0, none⟩), .int .i64 ((N : Int) + (k : Int)), .int .i64 5] u fun e w' => e = .returned (.bool true) ∧ Hid (LO n w b 3 (i + 1) (qR i qs N) w' ∧ Below u.heap.size u w')) := fun u k hk hu =>
        hu.valid (by omega) _ 5 (toplit (by omega)) (valid5 i qs N k hk)
      have HV6 : Hid (∀ u (k : Nat), k < 20 → LO n w b 3 (i + 1) (qR i qs N) u → Calls Try.prog 16 #[.pointer (some ⟨b, 0, none⟩), .int .i64 ((N : Int) + (k : Int)), .int .i64 6] u fun e w' => e = .returned (.bool false) ∧ Hid (LO n w b 3 (i + 1) (qR i qs N) w' ∧ Below u.heap.size u w')) := fun u k hk hu =>
        hu.valid (by omega) _ 6 (toplit (by omega)) (valid6 _ (ren_R HF.out) _)
      have HREN := Lib.hid (ren_R (r := i) HF.out)
      clear hq hxb et hp HF
      generalize qR i qs N = q2 at HT2 HV5 HV6 HREN
      generalize qR1 i qs N = q1 at HT1 HT2
      generalize upQ qs (i % 4) (.new N 5) = q0 at HA HT1
      go_wp2_with fail
      refine (HA.out _ HS.out).mono ?_
      rintro e w3 ⟨rfl, S3⟩
      clear HS HA
      go_wp2_with fail
      refine (HT1.out _ S3.out.1).mono ?_
      rintro e w4 ⟨rfl, S4⟩
      clear S3 HT1
      go_wp2_with fail
      refine (HT2.out _ S4.out.1).mono ?_
      rintro e w5 ⟨rfl, S5⟩
      clear S4 HT2
      have q0c := HQC.out _ S5.out.1.bel
      go_wp2_with fail
      rw [HET.out]
      have S5 := Lib.hid S5.out.1
      clear q0c
      go_loopw [9] (fun s9 wr => ∃ k : Nat, k ≤ p + 1 ∧ s9 = .int .i64 k ∧ Hid (LO n w b 3 (i + 1) q2 wr)) (fun s9 _ => p + 1 - (intOf s9).toNat)
      case atStart => exact ⟨0, Nat.zero_le _, rfl, S5.out⟩
      case round =>
        clear S5
        obtain ⟨k, hk, rfl, HS⟩ := hrel
        have p20 := HP.out
        by_cases hkp : k ≤ p
        · have k1 : (k : Int) ≤ (p : Int) := by omega
          have H5 := Lib.hid (fun u hu => HV5.out u k (by omega) hu)
          have H6 := Lib.hid (fun u hu => HV6.out u k (by omega) hu)
          have k20 : k < 20 := by omega
          go_wp2_with fail
          refine (H5.out _ HS.out).mono ?_
          rintro e w6 ⟨rfl, S6⟩
          clear HS
          go_wp2_with fail
          refine (H6.out _ S6.out.1).mono ?_
          rintro e w7 ⟨rfl, S7⟩
          go_wp2
          go_roundw
          case rel => exact ⟨k + 1, by omega, by go_num, S7.out.1⟩
          case measure => simp [intOf]; omega
        · have k1 : ¬ (k : Int) ≤ (p : Int) := by omega
          have HR2 := Lib.hid (HREN.out.later (Nat.le_add_right N p))
          clear HREN HV5 HV6
          go_wp2
          go_roundw
          case rel => exact ⟨i + 1, N + p, q2, by first | rfl | go_num, by go_num, by omega, by omega, HR2.out, HS.out⟩
          case measure => simp [intOf]; omega
    · have HE := Lib.hid (fun u (hu : LO n w b 3 i qs u) => hu.valid (by omega) ((N : Int) + 20) 5 (toplit (by omega)) (valid_end i HF.out))
      by_cases hl1 : i < len
      · have i1 : (i : Int) < (len : Int) := by omega
        have i2 : (30 : Int) ≤ (i : Int) := by omega
        clear hlt HF
        go_wp2_with fail
        refine (HT.out _).mono ?_
        rintro e w3 ⟨rfl, B3⟩
        have S3 := Lib.hid (HS.out.on B3)
        clear B3 HS
        go_wp2_with fail
        refine (HE.out _ S3.out).mono ?_
        rintro e w4 ⟨rfl, S4⟩
        go_wp2
        go_returns
        exact ⟨by first | rfl | trivial, S4.out.1.bel⟩
      · have i1 : (len : Int) ≤ (i : Int) := by omega
        clear hlt HF
        go_wp2_with fail
        refine (HT.out _).mono ?_
        rintro e w3 ⟨rfl, B3⟩
        have S3 := Lib.hid (HS.out.on B3)
        clear B3 HS
        go_wp2_with fail
        refine (HE.out _ S3.out).mono ?_
        rintro e w4 ⟨rfl, S4⟩
        go_wp2
        go_returns
        exact ⟨by first | rfl | trivial, S4.out.1.bel⟩

theorem walk (v : Value) (l : List Int) (w : World) (hI : Ints w w.heap.size v l) : Calls Try.prog 7 #[v] w fun e w' => e = .returned (.bool true) ∧ Below w.heap.size w w' := by
  obtain ⟨a, c, rfl, _⟩ := id hI
  exact main a _ c l w hI

set_option maxRecDepth 100000 in
theorem lifted (os : Os) (started : os.Started) (H : Type) (enc : TypeId × Value → H) :
    ReturnsInHanded {} Try.checked os 7 .any (Rows.holdRenewsSpec.pre6 enc Try.prog Try.f7 Rows.holdRenewsRow.domain false) (Rows.holdRenewsSpec.post enc Try.prog Try.f7 false true false false) := by
  refine returnsInHanded_of_change (C := Try.checked) own started (by kernel_rfl) Try.func7
    (ChangeSpec.witness6 (enc := enc) (C := Try.checked) false ⟨#[], #[.slice none 0 0], []⟩ 8 (by kernel_rfl) (by kernel_rfl) (by kernel_rfl) (by kernel_rfl)) ?_
  intro W base args ds gs before hval0 hW hcnd _
  have hval : ∀ (j : Nat) t v, Try.f7.params[j]? = some t → args[j]? = some v → Value.okWide Try.prog W .any base t v := hval0
  have hW' := hW
  obtain ⟨p, q, hA0, hV, rfl, hfz, hnd⟩ := hW
  have hA : DataW.TrodAll enc Try.prog W 0 (fun _ => true) true Try.f7.params.toList args.toList ds p := hA0
  rw [Try.params7] at hA hval
  obtain ⟨v0, vs0, d0, ds0, p0, q0, hargs, rfl, rfl, h0, r0⟩ := trodAll_cons hA
  obtain ⟨rfl, rfl, rfl⟩ := trodAll_nil r0
  obtain rfl : args = #[v0] := by cases args; simp_all
  obtain ⟨rfl, rfl⟩ := trodVars_none hV
  obtain ⟨a0, len0, cap0, rfl⟩ := okWide_slice Try.underlying41 (hval 0 41 v0 rfl rfl)
  have k0 := h0
  have lt0 : ∀ x ∈ p0, x.block < W.heap.size := by obtain ⟨m, hm⟩ := k0; exact DataW.trod_lt m _ _ _ hm
  obtain ⟨l0, w0⟩ := cints_open h0
  clear hA0 hval0
  refine (walk (.slice a0 len0 cap0) l0 W w0).mono fun e W' ⟨he, bel⟩ => ?_
  subst he
  exact ⟨_, rfl, _, _, _, [], _, [], hW', trodAll_mk1 (shut_bool Try.underlying4 _), (trodAll_cons_mk (Below.trod laidOut (by kernel_rfl) (of_decide_eq_true (by kernel_rfl)) k0 bel lt0) trodAll_mk0), rfl, bel.frame _, fun h => by cases h⟩

theorem over : Rows.holdRenewsRow.holds Try.pinned (OpenSpec.ofChange Rows.holdRenewsSpec) :=
  OpenClaim.holds_of_wide 7 Try.f7 rfl rfl rfl rfl rfl rfl rfl ⟨rfl, rfl, rfl, rfl, rfl⟩ rfl rfl rfl rfl rfl (by kernel_rfl) Try.func7 (by kernel_rfl)
    (of_decide_eq_true (by kernel_rfl)) (by unfold Func.isWrapper; first | (rw [if_pos (by decide +kernel)]; kernel_rfl) | (rw [if_neg (by decide +kernel)]; exact ⟨rfl, rfl⟩))
    (fun os started H enc _ => lifted os started H enc)
end Go.Proofs.Ytomjlhmkmihbeaa.HoldRenews

namespace Go.Proofs.Ytomjlhmkmihbeaa
theorem holdRenews_holds : Rows.HoldRenewsSaid := HoldRenews.over
#print axioms holdRenews_holds
end Go.Proofs.Ytomjlhmkmihbeaa
