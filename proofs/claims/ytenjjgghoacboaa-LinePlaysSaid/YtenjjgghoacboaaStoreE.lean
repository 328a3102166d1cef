/-
  THE LAWS' COMPARISON of the program's store with the reference's: alike stores are the same.
-/
import Derived.Test.YtenjjgghoacboaaStoreJ
import Derived.Test.YtenjjgghoacboaaStoreX
import Derived.Test.YtenjjgghoacboaaChartE
import Derived.Deep.RegionWith
import Derived.BigRegion
namespace Go.Proofs.Ytenjjgghoacboaa
open Go.RowKit

/-- Ids that were told, as long as nothing turns them. -/
def IdsTold (L : List Int) (w : World) (e : Ending) (w' : World) : Prop := ∃ a m c, e = .returned (.slice a m c) ∧ (∀ u, Below w'.heap.size w' u → Ints u u.heap.size (.slice a m c) L) ∧ Below w.heap.size w w'
theorem idsTold_of {L : List Int} {n : Nat} {w : World} {e : Ending} {w' : World} (h : ∃ v, e = .returned v ∧ w'.ownsRow w.heap.size 3 1 v n (intCells L) ∧ Below w.heap.size w w') : IdsTold L w e w' := by
  obtain ⟨v, rfl, ho, hb⟩ := h
  have hy := ints_own ho (Nat.le_refl _)
  obtain ⟨a, c, rfl⟩ := own_shape ho
  exact ⟨a, _, c, rfl, fun u hu => (hy.keep hu).mono hu.size, hb⟩

set_option maxRecDepth 100000 in
set_option maxHeartbeats 4000000 in
theorem sames_r (b bb : Nat) (s : StoV) (N : Nat) (w : World) (hf : Fit s N) (hN : N ≤ 1000000) (ha : Sto layP w b s) (hr : Sto layR w bb s) :
    Calls Try.prog 54 #[.pointer (some ⟨b, 0, none⟩), .pointer (some ⟨bb, 0, none⟩)] w fun e w' => e = .returned (.bool true) ∧ Below w.heap.size w w' := by
  have hbb := hr.lt
  have HA : Hid (∀ u, Below w.heap.size w u → Sto layP u b s) := fun u hu => ha.on hu
  have HR : Hid (∀ u, Below w.heap.size w u → Sto layR u bb s) := fun u hu => hr.on hu
  have HFt := Lib.hid hf
  have hpl := hf.places
  have HLn : Hid (∀ u, Below w.heap.size w u → Calls Try.prog 85 #[.pointer (some ⟨b, 0, none⟩)] u fun e w' => e = .returned (.int .i64 s.places) ∧ u = w') := fun u hu => slen_r b s u (ha.on hu)
  have HPl : Hid (∀ u, Below w.heap.size w u → u.cell? ⟨bb, 1, none⟩ = some (.int .i64 s.places)) := fun u hu => by
    obtain ⟨f, hk, ht⟩ := hr.on hu
    exact ht.2.2.1 ▸ hk.cell 1 (by decide)
  obtain ⟨S, hS⟩ : ∃ S, stoS s = S := ⟨_, rfl⟩
  have HBy : Hid (∀ u, Below w.heap.size w u → Calls Try.prog 25 #[.pointer (some ⟨b, 0, none⟩)] u (BytesStr S u)) := fun u hu => by rw [← hS]; exact sbytes_s b s N u (ha.on hu) hf hN
  have HRy : Hid (∀ u, Below w.heap.size w u → Calls Try.prog 86 #[.pointer (some ⟨bb, 0, none⟩)] u fun e w' => e = .returned (.string S) ∧ Below u.heap.size u w') := fun u hu => by rw [← hS]; exact rbytes_s bb s N u (hr.on hu) hf hN
  have HSi : Hid (∀ u, Below w.heap.size w u → Calls Try.prog 87 #[.pointer (some ⟨b, 0, none⟩)] u (IdsTold (idL s) u)) := fun u hu => (sids_r b s u (ha.on hu) (fun k hk => by have := (hf.res k hk).1; omega)).mono fun _ _ h => idsTold_of h
  have HRi : Hid (∀ u, Below w.heap.size w u → Calls Try.prog 88 #[.pointer (some ⟨bb, 0, none⟩)] u (IdsTold (idL s) u)) := fun u hu => (rids_r bb s u (hr.on hu) (fun k hk => by have := (hf.res k hk).1; omega)).mono fun _ _ h => idsTold_of h
  have hidl : (idL s).length ≤ 1000000 := by have := idsV_len s.res 32; simp only [idL, List.length_map]; omega
  obtain ⟨I, hI⟩ : ∃ I, idL s = I := ⟨_, rfl⟩
  rw [hI] at HSi HRi hidl
  have HIn : Hid (∀ v1 v2 u, Ints u u.heap.size v1 I → Ints u u.heap.size v2 I → Calls Try.prog 64 #[v1, v2] u fun e w' => e = .returned (.bool true) ∧ Below u.heap.size u w') := fun v1 v2 u h1 h2 => by
    have h := refints_any v1 v2 I I _ u h1 h2 (Nat.le_refl _) hidl
    rwa [decide_eq_true rfl] at h
  have HX : Hid (∀ X u, Below w.heap.size w X → Below X.heap.size X u → Below w.heap.size w u ∧ u.cell? ⟨bb, 1, none⟩ = some (.int .i64 s.places)) := fun X u hX hu => by
    have h := hX.trans (hu.mono hX.size)
    exact ⟨h, HPl.out u h⟩
  have D0 : Below w.heap.size w w.drew := (Below.refl _ _).drew
  have cpl := HPl.out w (Below.refl _ _)
  clear hS hI hidl hf ha hr hpl
  go_enter Try.func54, Try.ntmps54
  go_upto_region 1 with fail
  go_cut [35] (fun s35 wc => s35 = .bool false ∧ Hid (Below w.heap.size w wc))
  case first =>
    go_region_with (first
      | (go_at_call 85; refine (HLn.out _ (by first | assumption | go_grown)).mono ?_; rintro e w3 ⟨rfl, rfl⟩)
      | (go_at_call 25; refine (HBy.out _ (by first | assumption | go_grown)).mono ?_; rintro e w3 ⟨ax, nx, cx, rfl, hkc, B3⟩; obtain ⟨C3, cp3⟩ := HX.out _ _ (by first | assumption | go_grown) B3; have hkr := Below.refl w3.heap.size w3)
      | (go_at_call 86; refine (HRy.out _ (by first | assumption | go_grown)).mono ?_; rintro e w3 ⟨rfl, B3⟩; obtain ⟨C3, cp3⟩ := HX.out _ _ (by first | assumption | go_grown) B3)
      | (go_at_call 87; refine (HSi.out _ (by first | assumption | go_grown)).mono ?_; rintro e w3 ⟨ai, mi, ci, rfl, hS1, B3⟩; obtain ⟨C3, cp3⟩ := HX.out _ _ (by first | assumption | go_grown) B3)
      | (go_at_call 88; refine (HRi.out _ (by first | assumption | go_grown)).mono ?_; rintro e w3 ⟨aj, mj, cj, rfl, hR1, B3⟩; obtain ⟨C3, cp3⟩ := HX.out _ _ (by first | assumption | go_grown) B3)
      | (go_at_call 64; refine (HIn.out _ _ _ (by first | exact hS1 _ (Below.refl _ _) | exact hS1 _ (by assumption)) (by first | exact hR1 _ (Below.refl _ _) | exact hR1 _ (by assumption))).mono ?_; rintro e w3 ⟨rfl, B3⟩; obtain ⟨C3, cp3⟩ := HX.out _ _ (by first | assumption | go_grown) B3))
    all_goals
      go_wp2
      go_meet
    all_goals exact ⟨rfl, C3⟩
  case rest =>
    obtain ⟨rfl, HC⟩ := hcut
    clear HLn HPl HBy HRy HSi HRi HIn HX D0 cpl
    go_wp2
    go_loopw [5] (fun vi wr => ∃ j : Nat, j ≤ 6 ∧ vi = .int .i64 ((j : Int) - 1) ∧ Below w.heap.size w wr) (fun vi _ => 6 - (intOf vi + 1).toNat)
    case atStart => exact ⟨0, by omega, rfl, HC.out⟩
    case round =>
      obtain ⟨j, hj, rfl, hbel⟩ := hrel
      have HB := Lib.hid hbel
      clear hbel
      by_cases hlt : j < 6
      · by_cases hin : 1 ≤ j ∧ j ≤ 4
        · obtain ⟨c, rfl⟩ : ∃ c, j = c + 1 := ⟨j - 1, by omega⟩
          have hc4 : c < 4 := by omega
          have i0 : (0 : Int) ≤ (c : Int) := by omega
          have i1 : (c : Int) < 4 := by omega
          have i2 : (c : Int) ≤ 4 := by omega
          have ec : ((c + 1 : Nat) : Int) - 1 = (c : Int) := by omega
          have hlv : lastV s c = s.cl c := by rw [lastV, if_pos ⟨i0, i1⟩]; rfl
          have HLa : Hid (∀ u, Below w.heap.size w u → Calls Try.prog 89 #[.pointer (some ⟨b, 0, none⟩), .int .i64 c] u (LastTold (s.cl c) u)) := fun u hu => by rw [← hlv]; exact slast_r b c s u (HA.out u hu)
          have HSq : Hid (∀ u, Below w.heap.size w u → Calls Try.prog 90 #[.pointer (some ⟨b, 0, none⟩), .int .i64 c] u fun e w' => e = .returned (.int .i64 (s.cl c).seq) ∧ Below u.heap.size u w') := fun u hu => by rw [← hlv]; exact sseq_r b c s u (HA.out u hu)
          obtain ⟨vt, nt, g1, g2, g3, g4, g5, g6⟩ := sto_clientR (HR.out w (Below.refl _ _)) c hc4
          obtain ⟨at', ct, rfl, hnt⟩ := nt
          have HNt : Hid (Nil0 (.slice at' 0 ct)) := ⟨at', ct, rfl, hnt⟩
          have HTo : Hid (∀ u, Below w.heap.size w u → u.cell? ⟨bb, 34 + c, none⟩ = some (.int .i64 (s.cl c).seq) ∧ u.cell? ⟨bb, 42 + c * 4, none⟩ = some (.int .i64 (s.cl c).code) ∧ u.cell? ⟨bb, 42 + c * 4 + 1, none⟩ = some (.int .i64 (s.cl c).ver) ∧
              u.cell? ⟨bb, 42 + c * 4 + 2, none⟩ = some (.string (s.cl c).data) ∧ u.cell? ⟨bb, 42 + c * 4 + 3, none⟩ = some (.slice at' 0 ct) ∧ u.cell? ⟨bb, 38 + c, none⟩ = some (.int .i64 (s.cl c).place)) :=
            fun u hu => ⟨(hu.cell (p := ⟨bb, 34 + c, none⟩) hbb).trans g1, (hu.cell (p := ⟨bb, 42 + c * 4, none⟩) hbb).trans g2, (hu.cell (p := ⟨bb, 42 + c * 4 + 1, none⟩) hbb).trans g3, (hu.cell (p := ⟨bb, 42 + c * 4 + 2, none⟩) hbb).trans g4, (hu.cell (p := ⟨bb, 42 + c * 4 + 3, none⟩) hbb).trans g5, (hu.cell (p := ⟨bb, 38 + c, none⟩) hbb).trans g6⟩
          clear hlv g1 g2 g3 g4 g5 g6 hnt hin
          generalize s.cl c = l at HLa HSq HTo
          obtain ⟨sq, cd, vr, dt, pl⟩ := l
          simp only at HLa HSq HTo
          rw [ec]
          clear ec
          go_wp2_with fail
          refine (HLa.out _ HB.out).mono ?_
          rintro e w3 ⟨a3, c3, rfl, n3, B3⟩
          have C3 : Below w.heap.size w w3 := HB.out.trans (B3.mono HB.out.size)
          obtain ⟨w4, hw4⟩ : ∃ x, x = (w3.alloc (.cells #[.int .i64 cd, .int .i64 vr, .string dt, .slice a3 0 c3] 48)).alloc (.cells #[.int .i64 0, .int .i64 0, .string ⟨#[]⟩, .slice none 0 0] 48) := ⟨_, rfl⟩
          have RA4 : RepAt w4 w3.heap.size cd vr dt (.slice a3 0 c3) := by rw [hw4]; exact (RepAt.new w3 cd vr dt (.slice a3 0 c3)).alloc _
          have RB4 : RepAt w4 (w3.heap.size + 1) 0 0 ⟨#[]⟩ (.slice none 0 0) := by
            rw [hw4]
            have := RepAt.new (w3.alloc (.cells #[.int .i64 cd, .int .i64 vr, .string dt, .slice a3 0 c3] 48)) 0 0 ⟨#[]⟩ (.slice none 0 0)
            rwa [World.size_alloc] at this
          have C4 : Below w.heap.size w w4 := by rw [hw4]; exact (C3.alloc C3.size _).alloc (by have := C3.size; simp; omega) _
          have hs3 := C3.size
          have HW4 := Lib.hid hw4
          have N3 := Lib.hid n3
          have HRA := Lib.hid RA4
          have HRB := Lib.hid RB4
          have HC4 := Lib.hid C4
          obtain ⟨t1, t2, t3, t4, t5, t6⟩ := HTo.out w4 C4
          obtain ⟨⟨x0, x1, x2, x3⟩, ⟨z0, z1, z2, z3⟩⟩ := RB4.cells
          have nb : bb ≠ w3.heap.size + 1 := by omega
          have nb' : w3.heap.size + 1 ≠ bb := by omega
          clear B3 C3 hw4 n3 RA4 RB4 C4
          go_upto_region 10 with fail
          rw [← HW4.out]
          go_region
          go_upto_region 11 with fail
          obtain ⟨w5, hw5⟩ : ∃ x, x = ((((w4.setCell ⟨w3.heap.size + 1, 0, none⟩ (.int .i64 cd)).setCell ⟨w3.heap.size + 1, 1, none⟩ (.int .i64 vr)).setCell ⟨w3.heap.size + 1, 2, none⟩ (.string dt)).setCell ⟨w3.heap.size + 1, 3, none⟩ (.slice at' 0 ct)).drew := ⟨_, rfl⟩
          rw [← hw5]
          have hst : Besides (w3.heap.size + 1) w4 w5 := by rw [hw5]; exact Besides.drew (stored_besides w4 (w3.heap.size + 1) cd vr dt (.slice at' 0 ct))
          have RA5 := Lib.hid (HRA.out.besides hst (by omega))
          have RB5 : Hid (RepAt w5 (w3.heap.size + 1) cd vr dt (.slice at' 0 ct)) := by rw [hw5]; exact rep_stored (c' := cd) (n' := vr) (d' := dt) HRB.out (.slice at' 0 ct)
          have C5 : Hid (Below w.heap.size w w5) := by
            refine hst.below HC4.out ?_ HC4.out.size
            omega
          clear hst hw5 hs3 t1 t2 t3 t4 t5 t6 x0 x1 x2 x3 z0 z1 z2 z3 HRA HRB HC4 HW4
          go_wp2_with fail
          refine (HSq.out _ C5.out).mono ?_
          rintro e w6 ⟨rfl, B6⟩
          have RA6 := RA5.out.keep B6 RA5.out.lt
          have RB6 := RB5.out.keep B6 RB5.out.lt
          have C6 := Lib.hid (C5.out.trans (B6.mono C5.out.size))
          obtain ⟨⟨x0, x1, x2, x3⟩, _⟩ := RA6.cells
          obtain ⟨⟨y0, y1, y2, y3⟩, _⟩ := RB6.cells
          have HSm := Lib.hid (fun u => same_nil cd vr dt (.slice a3 0 c3) (.slice at' 0 ct) N3.out HNt.out u)
          clear B6 RA6 RB6 RA5 RB5 C5
          go_wp2_with fail
          refine (HSm.out _).mono ?_
          rintro e w7 ⟨rfl, B7⟩
          have C7 := Lib.hid (C6.out.trans (B7.mono C6.out.size))
          clear B7 C6 x0 x1 x2 x3 y0 y1 y2 y3
          go_wp2
          go_roundw
          case rel =>
            first
              | exact ⟨c + 2, by omega, by go_num, C7.out⟩
              | ((repeat apply Exists.intro); exact ⟨⟨c + 2, by omega, by go_num, C7.out⟩, rfl⟩)
          case measure => simp [intOf]; omega
        · have hlz : lastV s ((j : Int) - 1) = zeroL := by rw [lastV, if_neg (by omega)]
          have HLa : Hid (∀ u, Below w.heap.size w u → Calls Try.prog 89 #[.pointer (some ⟨b, 0, none⟩), .int .i64 ((j : Int) - 1)] u (LastTold zeroL u)) := fun u hu => by rw [← hlz]; exact slast_r b _ s u (HA.out u hu)
          have HSq : Hid (∀ u, Below w.heap.size w u → Calls Try.prog 90 #[.pointer (some ⟨b, 0, none⟩), .int .i64 ((j : Int) - 1)] u fun e w' => e = .returned (.int .i64 0) ∧ Below u.heap.size u w') := fun u hu => by
            have h := sseq_r b ((j : Int) - 1) s u (HA.out u hu)
            rwa [hlz] at h
          clear hlz
          unfold zeroL at HLa
          rcases (show j = 0 ∨ j = 5 by omega) with rfl | rfl
          all_goals
            first
              | rw [show (((0 : Nat) : Int) - 1) = -1 from rfl] at HLa HSq ⊢
              | rw [show (((5 : Nat) : Int) - 1) = 4 from rfl] at HLa HSq ⊢
            go_wp2_with fail
            refine (HLa.out _ HB.out).mono ?_
            rintro e w3 ⟨a3, c3, rfl, n3, B3⟩
            have C3 : Below w.heap.size w w3 := HB.out.trans (B3.mono HB.out.size)
            obtain ⟨w4, hw4⟩ : ∃ x, x = (w3.alloc (.cells #[.int .i64 0, .int .i64 0, .string ⟨#[]⟩, .slice a3 0 c3] 48)).alloc (.cells #[.int .i64 0, .int .i64 0, .string ⟨#[]⟩, .slice none 0 0] 48) := ⟨_, rfl⟩
            have RA4 : Hid (RepAt w4 w3.heap.size 0 0 ⟨#[]⟩ (.slice a3 0 c3)) := by rw [hw4]; exact (RepAt.new w3 0 0 ⟨#[]⟩ (.slice a3 0 c3)).alloc _
            have RB4 : Hid (RepAt w4 (w3.heap.size + 1) 0 0 ⟨#[]⟩ (.slice none 0 0)) := by
              rw [hw4]
              have := RepAt.new (w3.alloc (.cells #[.int .i64 0, .int .i64 0, .string ⟨#[]⟩, .slice a3 0 c3] 48)) 0 0 ⟨#[]⟩ (.slice none 0 0)
              rwa [World.size_alloc] at this
            have C4 : Hid (Below w.heap.size w w4) := by rw [hw4]; exact (C3.alloc C3.size _).alloc (by have := C3.size; simp; omega) _
            have HW4 := Lib.hid hw4
            have N3 := Lib.hid n3
            clear B3 C3 hw4 n3
            go_upto_region 11 with fail
            rw [← HW4.out]
            go_wp2_with fail
            refine (HSq.out _ C4.out).mono ?_
            rintro e w6 ⟨rfl, B6⟩
            have RA6 := RA4.out.keep B6 RA4.out.lt
            have RB6 := RB4.out.keep B6 RB4.out.lt
            have C6 := Lib.hid (C4.out.trans (B6.mono C4.out.size))
            obtain ⟨⟨x0, x1, x2, x3⟩, _⟩ := RA6.cells
            obtain ⟨⟨y0, y1, y2, y3⟩, _⟩ := RB6.cells
            have HSm := Lib.hid (fun u => same_nil 0 0 ⟨#[]⟩ (.slice a3 0 c3) (.slice none 0 0) N3.out Nil0.none u)
            clear B6 RA6 RB6 RA4 RB4 C4 HW4
            go_wp2_with fail
            refine (HSm.out _).mono ?_
            rintro e w7 ⟨rfl, B7⟩
            have C7 := Lib.hid (C6.out.trans (B7.mono C6.out.size))
            clear B7 C6 x0 x1 x2 x3 y0 y1 y2 y3
            go_wp2
            go_roundw
            case rel =>
              first
                | exact ⟨1, by omega, by go_num, C7.out⟩
                | exact ⟨6, by omega, by go_num, C7.out⟩
                | ((repeat apply Exists.intro); exact ⟨⟨1, by omega, by go_num, C7.out⟩, rfl⟩)
                | ((repeat apply Exists.intro); exact ⟨⟨6, by omega, by go_num, C7.out⟩, rfl⟩)
            case measure => simp [intOf]
      · obtain rfl : j = 6 := by omega
        rw [show (((6 : Nat) : Int) - 1) = 5 from rfl]
        go_wp2
        go_loopw [11] (fun vi wr => ∃ j : Nat, j ≤ 34 ∧ vi = .int .i64 ((j : Int) - 1) ∧ Below w.heap.size w wr) (fun vi _ => 34 - (intOf vi + 1).toNat)
        case atStart => exact ⟨0, by omega, rfl, HB.out⟩
        case round =>
          obtain ⟨j, hj, rfl, hbel⟩ := hrel
          have HB2 := Lib.hid hbel
          clear hbel
          by_cases hlt2 : j < 34
          · obtain ⟨L, hL⟩ : ∃ L, L = resV s ((j : Int) - 1) := ⟨_, rfl⟩
            have hll : L.length ≤ 100 := by
              rw [hL, resV]
              split
              · exact (HFt.out.res _ (by omega)).1
              · exact Nat.zero_le _
            have HVs : Hid (∀ u, Below w.heap.size w u → Calls Try.prog 92 #[.pointer (some ⟨b, 0, none⟩), .int .i64 ((j : Int) - 1)] u fun e w' => ∃ a m c, e = .returned (.slice a m c) ∧ Vers w' w'.heap.size (.slice a m c) L ∧ Below u.heap.size u w') := fun u hu => by
              refine (sversions_r b ((j : Int) - 1) s u (HA.out u hu) (by rw [← hL]; omega)).mono fun e w' ⟨v', he, ho, hb⟩ => ?_
              have h1 := vers_own ho (Nat.le_refl _)
              obtain ⟨a, c, rfl⟩ := own_shape ho
              rw [← hL] at h1 he
              exact ⟨a, _, c, he, h1, hb⟩
            have HVV : Hid (∀ v1 v2 u, Vers u u.heap.size v1 L → Vers u u.heap.size v2 L → Calls Try.prog 91 #[v1, v2] u fun e w' => e = .returned (.bool true) ∧ Below u.heap.size u w') := by
              intro v1 v2 u h1 h2
              have h := versions_any v1 v2 L L _ u h1 h2 (Nat.le_refl _) (by omega)
              rwa [decide_eq_true rfl] at h
            by_cases hin : 1 ≤ j ∧ j ≤ 32
            · obtain ⟨i, rfl⟩ : ∃ i, j = i + 1 := ⟨j - 1, by omega⟩
              have i0 : (0 : Int) ≤ (i : Int) := by omega
              have i1 : (i : Int) < 32 := by omega
              have i2 : (i : Int) ≤ 31 := by omega
              have i3 : (i : Int) ≤ 32 := by omega
              have ei : ((i + 1 : Nat) : Int) - 1 = (i : Int) := by omega
              rw [ei] at HVs hL ⊢
              have hLi : L = s.res i := by rw [hL, resV, if_pos ⟨i0, i1⟩]; rfl
              obtain ⟨ao, cap, hcc, hvv⟩ := sto_resR (HR.out w (Below.refl _ _)) i (by omega)
              rw [← hLi] at hcc hvv
              have ck : wr.cell? ⟨bb, 2 + i, none⟩ = some (.slice ao L.length cap) := (HB2.out.cell (p := ⟨bb, 2 + i, none⟩) hbb).trans hcc
              have HV0 := Lib.hid hvv
              clear ei hLi hL hcc hvv hin
              generalize hn : L.length = n at ck HV0
              have HNn := Lib.hid hn
              clear hn
              go_wp2_with fail
              refine (HVs.out _ HB2.out).mono ?_
              rintro e w3 ⟨a3, m3, c3, rfl, V3, B3⟩
              have C3 := Lib.hid (HB2.out.trans (B3.mono HB2.out.size))
              have HV3 := Lib.hid V3
              have HV4 := Lib.hid (HV0.out.on C3.out)
              clear B3 V3 ck
              go_wp2_with fail
              refine (HVV.out _ _ _ HV3.out HV4.out).mono ?_
              rintro e w4 ⟨rfl, B4⟩
              have C4 := Lib.hid (C3.out.trans (B4.mono C3.out.size))
              clear B4 C3 HV3 HV4
              go_wp2
              go_roundw
              case rel =>
                first
                  | exact ⟨i + 2, by omega, by go_num, C4.out⟩
                  | ((repeat apply Exists.intro); exact ⟨⟨i + 2, by omega, by go_num, C4.out⟩, rfl⟩)
              case measure => simp [intOf]; omega
            · have hLe : L = [] := by rw [hL, resV, if_neg (by omega)]
              have HLe := Lib.hid hLe
              clear hL hLe hll
              rcases (show j = 0 ∨ j = 33 by omega) with rfl | rfl
              all_goals
                first
                  | rw [show (((0 : Nat) : Int) - 1) = -1 from rfl] at HVs ⊢
                  | rw [show (((33 : Nat) : Int) - 1) = 32 from rfl] at HVs ⊢
                go_wp2_with fail
                refine (HVs.out _ HB2.out).mono ?_
                rintro e w3 ⟨a3, m3, c3, rfl, V3, B3⟩
                have C3 := Lib.hid (HB2.out.trans (B3.mono HB2.out.size))
                have HV3 := Lib.hid V3
                have HV4 : Hid (Vers w3 w3.heap.size (.slice none 0 0) L) := by rw [HLe.out]; exact Vers.none _ _
                clear B3 V3
                go_wp2_with fail
                refine (HVV.out _ _ _ HV3.out HV4.out).mono ?_
                rintro e w4 ⟨rfl, B4⟩
                have C4 := Lib.hid (C3.out.trans (B4.mono C3.out.size))
                clear B4 C3 HV3 HV4
                go_wp2
                go_roundw
                case rel =>
                  first
                    | exact ⟨1, by omega, by go_num, C4.out⟩
                    | exact ⟨34, by omega, by go_num, C4.out⟩
                    | ((repeat apply Exists.intro); exact ⟨⟨1, by omega, by go_num, C4.out⟩, rfl⟩)
                    | ((repeat apply Exists.intro); exact ⟨⟨34, by omega, by go_num, C4.out⟩, rfl⟩)
                case measure => simp [intOf]
          · obtain rfl : j = 34 := by omega
            rw [show (((34 : Nat) : Int) - 1) = 33 from rfl]
            go_wp2
            go_returns
            exact ⟨rfl, HB2.out⟩
end Go.Proofs.Ytenjjgghoacboaa
