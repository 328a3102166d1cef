/-
  PROVED: casebooklaw17.WatchApart answers true and leaves its argument as it was, for any ints: the row's own reading and nothing else is assumed.
-/
import Derived.Test.YtomjlhmkmihbeaaClockArgs
import Derived.Test.YtomjlhmkmihbeaaWatT
import Derived.Laws.BitsLemmas
namespace Go.Proofs.Ytomjlhmkmihbeaa.WatchApart
open Go.ChangeShapes Go.WideShapes Go.ChangeAt Go.RowKit

theorem and1 (n : Int) : bits .and .i64 n 1 = n % 2 := by
  have h127 : (BitVec.ofInt 64 1).toNat = 2 ^ 1 - 1 := by decide
  have key : (BitVec.ofInt 64 n &&& BitVec.ofInt 64 1).toNat = (n % ((2 ^ 64 : Nat) : Int)).toNat % 2 ^ 1 := by
    rw [BitVec.toNat_and, BitVec.toNat_ofInt, h127, Nat.and_two_pow_sub_one_eq_mod]
  show IntKind.i64.wrap ((BitVec.ofInt 64 n &&& BitVec.ofInt 64 1).toNat : Nat) = n % 2
  rw [key, IntKind.wrap_i64]
  omega
/-- Block q is a row of three. -/
def Row3 (u : World) (q : Nat) (f : Nat → Nat) : Prop := u.heap[q]? = some (.cells (rowF 3 f).toArray 58 (0, 0))
theorem Row3.cell {u : World} {q : Nat} {f : Nat → Nat} (h : Row3 u q f) {j : Nat} (hj : j < 3) : u.cell? ⟨q, j, none⟩ = some (.int .i64 (f j : Nat)) ∧ u.frozen? ⟨q, j, none⟩ = false := by
  have h' : u.heap[q]? = some (.cells (rowF 3 f).toArray 58 (0, 0)) := h
  exact ⟨by rw [cell_of_row _ _ _ _ _ _ h', List.getElem?_toArray, rowF_get f hj], by simp [World.frozen?, h']⟩
theorem Row3.fresh (u : World) : Row3 (u.alloc (.cells #[.int .i64 0, .int .i64 0, .int .i64 0] 58)) u.heap.size (fun _ => 0) := heap_alloc_new u _
/-- The law's watch at b, its row at q. -/
structure AP (n : Nat) (w : World) (b q : Nat) (f g : Nat → Nat) (u : World) : Prop where
  wo : WO n w b 3 0 f u
  row : Row3 u q g
  low : n ≤ q
section
variable {n : Nat} {w u u' : World} {b q : Nat} {f g : Nat → Nat}
theorem AP.on (h : AP n w b q f g u) (hb : Below u.heap.size u u') : AP n w b q f g u' := ⟨h.wo.on hb, (hb.block q (lt_of_block h.row)).trans h.row, h.low⟩
theorem AP.drewN (h : AP n w b q f g u) (m : Nat) : AP n w b q f g (u.drewN m) := h.on ⟨rfl, rfl, rfl, Nat.le_refl _, fun _ _ => rfl⟩
theorem AP.ne (h : AP n w b q f g u) : q ≠ b := fun e => by
  have h1 := h.wo.wt.blk
  have h2 : u.heap[q]? = _ := h.row
  rw [e, h1] at h2
  simp only [Option.some.injEq, Obj.cells.injEq] at h2
  exact absurd h2.2.1 (by decide)
theorem AP.hear (h : AP n w b q f g u) (t k : Int) {f' : Nat → Nat} (hf : hearV 3 f t k = f') :
    Calls Try.prog 28 #[.pointer (some ⟨b, 0, none⟩), .int .i64 t, .int .i64 k] u fun e w' => e = .returned (.tuple #[]) ∧ Hid (AP n w b q f' g w') :=
  (h.wo.hear t k).mono fun _ _ ⟨he, hh⟩ => ⟨he, by rw [hf] at hh; exact ⟨hh.out.1, hh.out.2.same q _ _ h.row (by decide), h.low⟩⟩
theorem AP.set (h : AP n w b q f g u) (k v : Nat) : AP n w b q f (upF g k v) (u.setCell ⟨q, k, none⟩ (.int .i64 (v : Nat))) := by
  have ho := Only.set q k u (.int .i64 (v : Nat))
  refine ⟨⟨h.wo.wt.keep ho (fun e => h.ne e.symm), ho.below h.wo.bel (fun x hx => hx ▸ h.low) h.wo.size, h.wo.low, h.wo.nw⟩, ?_, h.low⟩
  show (u.setCell ⟨q, k, none⟩ (.int .i64 (v : Nat))).heap[q]? = _
  rw [heap_setCell_same _ _ _ _ _ _ h.row, List.setIfInBounds_toArray, rowF_set]
end
theorem hear_to {f : Nat → Nat} {k N M : Nat} (hk : k < 3) (hf : f k ≤ N) (hM : N ≤ M) : hearV 3 f (M : Int) (k : Int) = upF f k M := by
  unfold hearV
  rw [if_pos (by omega), show ((k : Int)).toNat = k by omega, show max (f k) (M : Int).toNat = M by omega]
theorem there_at (f : Nat → Nat) (M : Nat) {m : Nat} (h1 : 1 ≤ m) (h3 : m < 3) : isT 3 0 f ((M : Int) + 3) (m : Int) = decide ((M : Int) + 3 - (f m : Int) < 12) := by
  unfold isT
  rw [show ((m : Int)).toNat = m by omega]
  exact decide_eq_decide.2 (by omega)

set_option maxRecDepth 100000 in
set_option maxHeartbeats 800000 in
theorem main (a : Option Addr) (len c : Nat) (l : List Int) (w : World) (hI : Ints w w.heap.size (.slice a len c) l) :
    Calls Try.prog 11 #[.slice a len c] w fun e w' => e = .returned (.bool true) ∧ Below w.heap.size w w' := by
  have HT := Lib.hid (fun u => told17_any u)
  obtain ⟨_, _, hv, hcap, hmax, _, hcells⟩ := hI
  cases hv
  obtain ⟨len, hl⟩ : ∃ len, len = l.length := ⟨_, rfl⟩
  obtain ⟨n, hn⟩ : ∃ n, n = w.heap.size := ⟨_, rfl⟩
  rw [← hl] at hcap ⊢
  rw [← hn] at hcells ⊢
  have HN : Hid (Calls Try.prog 25 #[.int .i64 3, .int .i64 0, .int .i64 0] w fun e w' => ∃ p, e = .returned (.tuple #[.pointer (some ⟨p, 0, none⟩), .int .i64 0]) ∧ Hid (WO n w p 3 0 (wtOf 0 3) w' ∧ Below w.heap.size w w')) :=
    wo_new 3 0 0 w (by decide) (by decide) (by decide) (by decide) (Below.refl _ _) (Nat.le_of_eq hn)
  have HL := Lib.hid hl
  have HC := Lib.hid hcells
  clear hcells hl hcap hmax hn
  go_enter Try.func11, Try.ntmps11
  go_wp2_with fail
  refine HN.out.mono ?_
  rintro e w1 ⟨b, rfl, H1⟩
  have S0 := Lib.hid H1.out.1
  clear H1 HN
  go_wp2_with fail
  have A0 : AP n w b w1.heap.size (fun _ => 0) (fun _ => 0) (w1.alloc (.cells #[.int .i64 0, .int .i64 0, .int .i64 0] 58)) := by
    have hw : wtOf 0 3 = fun _ => 0 := by funext j; simp [wtOf]
    rw [hw] at S0
    exact ⟨S0.out.on ((Below.refl _ _).alloc (Nat.le_refl _) _), Row3.fresh w1, S0.out.size⟩
  obtain ⟨q, hq⟩ : ∃ q, q = w1.heap.size := ⟨_, rfl⟩
  obtain ⟨W1, hW1⟩ : ∃ W1, W1 = w1.alloc (.cells #[.int .i64 0, .int .i64 0, .int .i64 0] 58) := ⟨_, rfl⟩
  rw [← hq, ← hW1] at A0
  rw [← hq, ← hW1]
  have HA0 := Lib.hid A0
  clear hq hW1 A0 S0
  go_loopw [5, 7] (fun s5 s7 wr => ∃ (i N : Nat) (f : Nat → Nat), s5 = .int .i64 N ∧ s7 = .int .i64 i ∧ i ≤ 30 ∧ N ≤ 20 * i ∧ Hid (∀ j, f j ≤ N) ∧ Hid (AP n w b q f f wr)) (fun _ s7 _ => 30 - (intOf s7).toNat)
  case atStart => exact ⟨0, 0, _, rfl, rfl, Nat.zero_le _, Nat.zero_le _, (fun _ => Nat.zero_le _), HA0.out⟩
  case round =>
    clear HA0
    obtain ⟨i, N, f, rfl, rfl, hi, hN, HF, HS⟩ := hrel
    by_cases hlt : i < len ∧ i < 30
    · obtain ⟨hl1, hl2⟩ := hlt
      obtain ⟨xb, off, rfl, hxb, hc⟩ := HC.out (List.length_pos_iff.1 (by have := HL.out; omega))
      have hq := hc i (by have := HL.out; omega)
      clear hc
      generalize l.getD i 0 = x at hq
      have q0 := (HS.out.wo.bel.cell (p := ⟨xb, off + i, none⟩) hxb).trans hq
      have i1 : (i : Int) < (len : Int) := by omega
      have i0 : (0 : Int) ≤ (i : Int) := by omega
      have i2 : (i : Int) < 30 := by omega
      obtain ⟨p, hp, et⟩ := left_of x 20 (by decide) (by decide)
      have HET : Hid (wrap64 ((IntKind.u64.wrap x).tmod 20) = (p : Int)) := et
      obtain ⟨M, hM⟩ : ∃ M, M = N + p := ⟨_, rfl⟩
      have HM : Hid (wrap64 ((N : Int) + (p : Int)) = (M : Int)) := by
        show _ = _
        rw [IntWalk.wrap64_in _ (by omega)]
        omega
      rcases (show i % 2 = 0 ∨ i % 2 = 1 by omega) with hpar | hpar
      · have hb : bits .and .i64 (i : Int) 1 = 0 := by rw [and1]; omega
        have hM20 : M ≤ 20 * (i + 1) := by omega
        have HNM := Lib.hid (show N ≤ M by omega)
        have HH := Lib.hid (HS.out.hear (M : Int) ((1 : Nat) : Int) (hear_to (by decide) (HF.out 1) HNM.out))
        rw [show ((1 : Nat) : Int) = 1 from rfl] at HH
        have HF' : Hid (∀ j, upF f 1 M j ≤ M) := fun j => by
          have := HF.out j
          have := HNM.out
          unfold upF
          split <;> omega
        have HSET : Hid (∀ u, AP n w b q (upF f 1 M) f u → AP n w b q (upF f 1 M) (upF f 1 M) (u.setCell ⟨q, 1, none⟩ (.int .i64 (M : Nat)))) := fun u hu => hu.set 1 M
        generalize upF f 1 M = f' at HH HF' HSET
        clear hq hxb et hM hpar HF HS
        go_wp2_with fail
        rw [HET.out, HM.out]
        refine HH.out.mono ?_
        rintro e w3 ⟨rfl, H3⟩
        have Z3 := H3.out.row.cell (j := 1) (by decide)
        obtain ⟨z0, z1⟩ := Z3
        have H4 := Lib.hid (HSET.out _ H3.out)
        clear H3 HSET HH
        go_wp2_with fail
        obtain ⟨w4, hw4⟩ : ∃ w4, w4 = w3.setCell ⟨q, 1, none⟩ (.int .i64 (M : Int)) := ⟨_, rfl⟩
        rw [← hw4] at H4 ⊢
        clear hw4 z0 z1 hb
        go_loopw [8] (fun s8 wr => ∃ m : Nat, s8 = .int .i64 m ∧ 1 ≤ m ∧ m ≤ 3 ∧ Hid (AP n w b q f' f' wr)) (fun s8 _ => 3 - (intOf s8).toNat)
        case atStart => exact ⟨1, rfl, by omega, by omega, H4.out⟩
        case round =>
          clear H4
          obtain ⟨m, rfl, hm1, hm3, HS⟩ := hrel
          by_cases hm : m < 3
          · obtain ⟨c0, z0⟩ := HS.out.row.cell hm
            have HAt := Lib.hid (fun q' => ((HS.out.drewN q').wo.isThere ((M : Int) + 3) (m : Int) (top_big (by omega)) (there_at f' M hm1 hm)).mono fun e w' ⟨he, hw⟩ => (show e = _ ∧ ∃ q'', w' = (wr.drewN q').drewN q'' from ⟨he, 0, hw.symm⟩))
            have HD := Lib.hid (fun q' => HS.out.drewN q')
            have hfm := HF'.out m
            generalize f' m = fm at c0 HAt hfm
            have hfm' : (fm : Int) ≤ (M : Int) := by omega
            have m3 : (m : Int) < 3 := by omega
            have m0 : (0 : Int) ≤ (m : Int) := by omega
            clear HS z0
            go_wp2_with fail
            go_quiet (first
              | (go_at_call 33; exact Calls.quiet_of (HAt.out _)))
            go_wp2
            all_goals
              go_roundw
              case rel => exact ⟨m + 1, by go_num, by omega, by omega, HD.out _⟩
              case measure => simp [intOf]; omega
          · have m3 : ¬ (m : Int) < 3 := by omega
            go_wp2
            go_roundw
            case rel => exact ⟨i + 1, M, f', by first | rfl | go_num, by go_num, by omega, by omega, HF'.out, HS.out⟩
            case measure => simp [intOf]; omega
      · have hb : bits .and .i64 (i : Int) 1 = 1 := by rw [and1]; omega
        have hM20 : M ≤ 20 * (i + 1) := by omega
        have HNM := Lib.hid (show N ≤ M by omega)
        have HH := Lib.hid (HS.out.hear (M : Int) ((2 : Nat) : Int) (hear_to (by decide) (HF.out 2) HNM.out))
        rw [show ((2 : Nat) : Int) = 2 from rfl] at HH
        have HF' : Hid (∀ j, upF f 2 M j ≤ M) := fun j => by
          have := HF.out j
          have := HNM.out
          unfold upF
          split <;> omega
        have HSET : Hid (∀ u, AP n w b q (upF f 2 M) f u → AP n w b q (upF f 2 M) (upF f 2 M) (u.setCell ⟨q, 2, none⟩ (.int .i64 (M : Nat)))) := fun u hu => hu.set 2 M
        generalize upF f 2 M = f' at HH HF' HSET
        clear hq hxb et hM hpar HF HS
        go_wp2_with fail
        rw [HET.out, HM.out]
        refine HH.out.mono ?_
        rintro e w3 ⟨rfl, H3⟩
        have Z3 := H3.out.row.cell (j := 2) (by decide)
        obtain ⟨z0, z1⟩ := Z3
        have H4 := Lib.hid (HSET.out _ H3.out)
        clear H3 HSET HH
        go_wp2_with fail
        obtain ⟨w4, hw4⟩ : ∃ w4, w4 = w3.setCell ⟨q, 2, none⟩ (.int .i64 (M : Int)) := ⟨_, rfl⟩
        rw [← hw4] at H4 ⊢
        clear hw4 z0 z1 hb
        go_loopw [8] (fun s8 wr => ∃ m : Nat, s8 = .int .i64 m ∧ 1 ≤ m ∧ m ≤ 3 ∧ Hid (AP n w b q f' f' wr)) (fun s8 _ => 3 - (intOf s8).toNat)
        case atStart => exact ⟨1, rfl, by omega, by omega, H4.out⟩
        case round =>
          clear H4
          obtain ⟨m, rfl, hm1, hm3, HS⟩ := hrel
          by_cases hm : m < 3
          · obtain ⟨c0, z0⟩ := HS.out.row.cell hm
            have HAt := Lib.hid (fun q' => ((HS.out.drewN q').wo.isThere ((M : Int) + 3) (m : Int) (top_big (by omega)) (there_at f' M hm1 hm)).mono fun e w' ⟨he, hw⟩ => (show e = _ ∧ ∃ q'', w' = (wr.drewN q').drewN q'' from ⟨he, 0, hw.symm⟩))
            have HD := Lib.hid (fun q' => HS.out.drewN q')
            have hfm := HF'.out m
            generalize f' m = fm at c0 HAt hfm
            have hfm' : (fm : Int) ≤ (M : Int) := by omega
            have m3 : (m : Int) < 3 := by omega
            have m0 : (0 : Int) ≤ (m : Int) := by omega
            clear HS z0
            go_wp2_with fail
            go_quiet (first
              | (go_at_call 33; exact Calls.quiet_of (HAt.out _)))
            go_wp2
            all_goals
              go_roundw
              case rel => exact ⟨m + 1, by go_num, by omega, by omega, HD.out _⟩
              case measure => simp [intOf]; omega
          · have m3 : ¬ (m : Int) < 3 := by omega
            go_wp2
            go_roundw
            case rel => exact ⟨i + 1, M, f', by first | rfl | go_num, by go_num, by omega, by omega, HF'.out, HS.out⟩
            case measure => simp [intOf]; omega
    · have H0 := Lib.hid fun u (hu : AP n w b q f f u) => hu.wo.isThere (N : Int) 0 (top_big (by omega)) (show isT 3 0 f (N : Int) 0 = true from decide_eq_true (by omega))
      have H3 := Lib.hid fun u (hu : AP n w b q f f u) => hu.wo.isThere (N : Int) 3 (top_big (by omega)) (show isT 3 0 f (N : Int) 3 = false from decide_eq_false (by omega))
      have H1 := Lib.hid fun u (hu : AP n w b q f f u) => hu.wo.isThere (N : Int) (-1) (top_big (by omega)) (show isT 3 0 f (N : Int) (-1) = false from decide_eq_false (by omega))
      clear HF
      by_cases hl1 : i < len
      · have i1 : (i : Int) < (len : Int) := by omega
        have i2 : (30 : Int) ≤ (i : Int) := by omega
        clear hlt
        go_wp2_with fail
        refine (HT.out _).mono ?_
        rintro e w3 ⟨rfl, B3⟩
        have S3 := Lib.hid (HS.out.on B3)
        clear B3 HS
        go_wp2_with fail
        refine (H0.out _ S3.out).mono ?_
        rintro e w4 ⟨rfl, rfl⟩
        go_wp2_with fail
        refine (H3.out _ S3.out).mono ?_
        rintro e w5 ⟨rfl, rfl⟩
        go_wp2_with fail
        refine (H1.out _ S3.out).mono ?_
        rintro e w6 ⟨rfl, rfl⟩
        go_wp2
        go_returns
        exact ⟨by first | rfl | trivial, S3.out.wo.bel⟩
      · have i1 : (len : Int) ≤ (i : Int) := by omega
        clear hlt
        go_wp2_with fail
        refine (HT.out _).mono ?_
        rintro e w3 ⟨rfl, B3⟩
        have S3 := Lib.hid (HS.out.on B3)
        clear B3 HS
        go_wp2_with fail
        refine (H0.out _ S3.out).mono ?_
        rintro e w4 ⟨rfl, rfl⟩
        go_wp2_with fail
        refine (H3.out _ S3.out).mono ?_
        rintro e w5 ⟨rfl, rfl⟩
        go_wp2_with fail
        refine (H1.out _ S3.out).mono ?_
        rintro e w6 ⟨rfl, rfl⟩
        go_wp2
        go_returns
        exact ⟨by first | rfl | trivial, S3.out.wo.bel⟩

theorem walk (v : Value) (l : List Int) (w : World) (hI : Ints w w.heap.size v l) : Calls Try.prog 11 #[v] w fun e w' => e = .returned (.bool true) ∧ Below w.heap.size w w' := by
  obtain ⟨a, c, rfl, _⟩ := id hI
  exact main a _ c l w hI

set_option maxRecDepth 100000 in
theorem lifted (os : Os) (started : os.Started) (H : Type) (enc : TypeId × Value → H) :
    ReturnsInHanded {} Try.checked os 11 .any (Rows.watchApartSpec.pre6 enc Try.prog Try.f11 Rows.watchApartRow.domain false) (Rows.watchApartSpec.post enc Try.prog Try.f11 false true false false) := by
  refine returnsInHanded_of_change (C := Try.checked) own started (by kernel_rfl) Try.func11
    (ChangeSpec.witness6 (enc := enc) (C := Try.checked) false ⟨#[], #[.slice none 0 0], []⟩ 8 (by kernel_rfl) (by kernel_rfl) (by kernel_rfl) (by kernel_rfl)) ?_
  intro W base args ds gs before hval0 hW hcnd _
  have hval : ∀ (j : Nat) t v, Try.f11.params[j]? = some t → args[j]? = some v → Value.okWide Try.prog W .any base t v := hval0
  have hW' := hW
  obtain ⟨p, q, hA0, hV, rfl, hfz, hnd⟩ := hW
  have hA : DataW.TrodAll enc Try.prog W 0 (fun _ => true) true Try.f11.params.toList args.toList ds p := hA0
  rw [Try.params11] at hA hval
  obtain ⟨v0, vs0, d0, ds0, p0, q0, hargs, rfl, rfl, h0, r0⟩ := trodAll_cons hA
  obtain ⟨rfl, rfl, rfl⟩ := trodAll_nil r0
  obtain rfl : args = #[v0] := by cases args; simp_all
  obtain ⟨rfl, rfl⟩ := trodVars_none hV
  obtain ⟨a0, len0, cap0, rfl⟩ := okWide_slice Try.underlying41 (hval 0 41 v0 rfl rfl)
  have k0 := h0
  have lt0 : ∀ x ∈ p0, x.block < W.heap.size := by obtain ⟨m, hm⟩ := k0; exact DataW.trod_lt m _ _ _ hm
  obtain ⟨l0, w0⟩ := cints_open h0
  clear hA0 hval0
  refine (walk (.slice a0 len0 cap0) l0 W w0).mono fun e W' ⟨he, bel⟩ => ?_
  subst he
  exact ⟨_, rfl, _, _, _, [], _, [], hW', trodAll_mk1 (shut_bool Try.underlying4 _), (trodAll_cons_mk (Below.trod laidOut (by kernel_rfl) (of_decide_eq_true (by kernel_rfl)) k0 bel lt0) trodAll_mk0), rfl, bel.frame _, fun h => by cases h⟩

theorem over : Rows.watchApartRow.holds Try.pinned (OpenSpec.ofChange Rows.watchApartSpec) :=
  OpenClaim.holds_of_wide 11 Try.f11 rfl rfl rfl rfl rfl rfl rfl ⟨rfl, rfl, rfl, rfl, rfl⟩ rfl rfl rfl rfl rfl (by kernel_rfl) Try.func11 (by kernel_rfl)
    (of_decide_eq_true (by kernel_rfl)) (by unfold Func.isWrapper; first | (rw [if_pos (by decide +kernel)]; kernel_rfl) | (rw [if_neg (by decide +kernel)]; exact ⟨rfl, rfl⟩))
    (fun os started H enc _ => lifted os started H enc)
end Go.Proofs.Ytomjlhmkmihbeaa.WatchApart

namespace Go.Proofs.Ytomjlhmkmihbeaa
theorem watchApart_holds : Rows.WatchApartSaid := WatchApart.over
#print axioms watchApart_holds
end Go.Proofs.Ytomjlhmkmihbeaa
