/-
  PROVED: casebooklaw5.StoreFront answers true and leaves its arguments as they were, for any requests, any place: the row's own reading and nothing else is assumed.
-/
import Derived.Test.YticokpaegadbbaaStoreJ
import Derived.Test.YticokpaegadbbaaStoreU
import Derived.Deep.RegionWith
namespace Go.Proofs.Yticokpaegadbbaa.StoreFront
open Go.ChangeShapes Go.WideShapes Go.ChangeAt Go.RowKit

theorem modn (p : Int) (m : Int) (hm : 0 < m) : ∃ k : Nat, (k : Int) < m ∧ (IntKind.u64.wrap p).tmod m = (k : Int) := by
  have hu : 0 ≤ IntKind.u64.wrap p := by simp [IntKind.wrap, IntKind.bits, IntKind.signed]; omega
  have h0 := Int.emod_nonneg (IntKind.u64.wrap p) (by omega : m ≠ 0)
  have h1 := Int.emod_lt_of_pos (IntKind.u64.wrap p) hm
  refine ⟨((IntKind.u64.wrap p).tmod m).toNat, ?_, ?_⟩
  · rw [Int.tmod_eq_emod_of_nonneg hu]; omega
  · rw [Int.tmod_eq_emod_of_nonneg hu]; omega

set_option maxRecDepth 100000 in
set_option maxHeartbeats 2000000 in
theorem many (ao : Option Addr) (n cap : Nat) (cut : Int) (R : Bool) (w : World) (h : R = false ∨ 80 < n) (HF : Hid (∀ u, Below w.heap.size w u → Calls Try.prog 12 #[.slice ao n cap] u fun e w' => e = .returned (.bool R) ∧ u = w')) :
    Calls Try.prog 8 #[.slice ao n cap, .int .i64 cut] w fun e w' => e = .returned (.bool true) ∧ Below w.heap.size w w' := by
  have HT := Lib.hid (fun u => told5_any u)
  rcases (show R = false ∨ (R = true ∧ 80 < n) by cases R <;> simp_all) with rfl | ⟨rfl, h2⟩
  all_goals
    clear h
    go_enter Try.func8, Try.ntmps8
    go_wp2_with fail
    refine (HF.out _ (by go_grown)).mono ?_
    rintro e w2 ⟨rfl, rfl⟩
    go_wp2_with fail
    refine (HT.out _).mono ?_
    rintro e w2 ⟨rfl, B2⟩
    have C2 := Lib.hid B2
    clear B2
    go_wp2
    go_returns
    exact ⟨rfl, C2.out⟩

set_option maxRecDepth 100000 in
set_option maxHeartbeats 4000000 in
theorem run (ao : Option Addr) (n cap : Nat) (L : List ReqV) (cut : Int) (kk : Nat) (w : World) (hn : L.length = n) (h80 : n ≤ 80) (hs : ∀ q ∈ L, q.data.size ≤ 100) (HL : Hid (ReqsAt w ao L)) (hkk : kk ≤ n) (hid : (IntKind.u64.wrap cut).tmod ((n : Int) + 1) = (kk : Int))
    (HF : Hid (∀ u, Below w.heap.size w u → Calls Try.prog 12 #[.slice ao n cap] u fun e w' => e = .returned (.bool true) ∧ u = w')) :
    Calls Try.prog 8 #[.slice ao n cap, .int .i64 cut] w fun e w' => e = .returned (.bool true) ∧ Below w.heap.size w w' := by
  have H1 := Lib.hid (fun u => snew_r 8 (by decide) (by decide) u)
  have HT := Lib.hid (fun u => told5_any u)
  have HN := Lib.hid hn
  have HS := Lib.hid hs
  have kp : (0 : Int) ≤ (kk : Int) := by omega
  have kn : (kk : Int) ≤ (n : Int) := by omega
  have wn : IntKind.u64.wrap ((n : Int) + 1) = (n : Int) + 1 := by
    have := u64_of_nat (n + 1) (by omega)
    simpa using this
  clear hn hs
  go_enter Try.func8, Try.ntmps8
  go_wp2_with fail
  refine (HF.out _ (by go_grown)).mono ?_
  rintro e w2 ⟨rfl, rfl⟩
  go_wp2_with fail
  refine (H1.out _).mono ?_
  rintro e w1 ⟨rfl, S1, z1, B1⟩
  have C1 := Lib.hid B1
  have T1 := Lib.hid S1
  have Z1 := Lib.hid z1
  clear B1 S1 z1
  go_wp2
  obtain ⟨w2, hw2⟩ : ∃ x, x = w1.alloc (.cells #[.int .i64 8, .int .i64 0, .slice none 0 0, .slice none 0 0, .slice none 0 0, .slice none 0 0, .slice none 0 0, .slice none 0 0, .slice none 0 0, .slice none 0 0, .slice none 0 0, .slice none 0 0, .slice none 0 0, .slice none 0 0, .slice none 0 0, .slice none 0 0, .slice none 0 0, .slice none 0 0, .slice none 0 0, .slice none 0 0, .slice none 0 0, .slice none 0 0, .slice none 0 0, .slice none 0 0, .slice none 0 0, .slice none 0 0, .slice none 0 0, .slice none 0 0, .slice none 0 0, .slice none 0 0, .slice none 0 0, .slice none 0 0, .slice none 0 0, .slice none 0 0, .int .i64 0, .int .i64 0, .int .i64 0, .int .i64 0, .int .i64 0, .int .i64 0, .int .i64 0, .int .i64 0, .int .i64 0, .int .i64 0, .string ⟨#[]⟩, .slice none 0 0, .int .i64 0, .int .i64 0, .string ⟨#[]⟩, .slice none 0 0, .int .i64 0, .int .i64 0, .string ⟨#[]⟩, .slice none 0 0, .int .i64 0, .int .i64 0, .string ⟨#[]⟩, .slice none 0 0] 37) := ⟨_, rfl⟩
  rw [← hw2]
  have al2 : Below w1.heap.size w1 w2 := by rw [hw2]; exact (Below.refl _ _).alloc (Nat.le_refl _) _
  have T2 : Hid (Sto layR w2 w1.heap.size (newV 8)) := by
    obtain ⟨g1, g2⟩ := newG_row 8 #[.int .i64 8, .int .i64 0, .slice none 0 0, .slice none 0 0, .slice none 0 0, .slice none 0 0, .slice none 0 0, .slice none 0 0, .slice none 0 0, .slice none 0 0, .slice none 0 0, .slice none 0 0, .slice none 0 0, .slice none 0 0, .slice none 0 0, .slice none 0 0, .slice none 0 0, .slice none 0 0, .slice none 0 0, .slice none 0 0, .slice none 0 0, .slice none 0 0, .slice none 0 0, .slice none 0 0, .slice none 0 0, .slice none 0 0, .slice none 0 0, .slice none 0 0, .slice none 0 0, .slice none 0 0, .slice none 0 0, .slice none 0 0, .slice none 0 0, .slice none 0 0, .int .i64 0, .int .i64 0, .int .i64 0, .int .i64 0, .int .i64 0, .int .i64 0, .int .i64 0, .int .i64 0, .int .i64 0, .int .i64 0, .string ⟨#[]⟩, .slice none 0 0, .int .i64 0, .int .i64 0, .string ⟨#[]⟩, .slice none 0 0, .int .i64 0, .int .i64 0, .string ⟨#[]⟩, .slice none 0 0, .int .i64 0, .int .i64 0, .string ⟨#[]⟩, .slice none 0 0] (by rfl)
    rw [hw2]
    exact ⟨newG 8, ⟨_, heap_alloc_new w1 _, g1, g2⟩, newG_tell 8 _⟩
  have T1' := Lib.hid (T1.out.on al2)
  have C2 := Lib.hid (C1.out.trans (al2.mono C1.out.size))
  obtain ⟨bb, hbb⟩ : ∃ x, x = w1.heap.size := ⟨_, rfl⟩
  rw [← hbb] at T2 ⊢
  have hne : bb ≠ w.heap.size := by rw [hbb, Z1.out]; omega
  have hle : w.heap.size ≤ bb := by rw [hbb, Z1.out]; omega
  have hne' := hne.symm
  have HS0 := Lib.hid HS
  clear hbb Z1 hw2 al2 T1 C1 wn hid
  go_loopw [9] (fun vi wr => ∃ (k : Nat) (s : StoV), k ≤ kk ∧ vi = .int .i64 k ∧ Fit s k ∧ Sto layP wr w.heap.size s ∧ Sto layR wr bb s ∧ Below w.heap.size w wr) (fun vi _ => kk - (intOf vi).toNat)
  case atStart => exact ⟨0, newV 8, by omega, rfl, Fit.new 8 (by decide) (by decide), T1'.out, T2.out, C2.out⟩
  case round =>
    obtain ⟨k, s, hk, rfl, hf, hsa, hsb, hbel⟩ := hrel
    have HFt := Lib.hid hf
    have HA := Lib.hid hsa
    have HBs := Lib.hid hsb
    have HB := Lib.hid hbel
    clear hf hsa hsb hbel
    by_cases hlt : k < kk
    · have hkL : k < L.length := by rw [HN.out]; omega
      obtain ⟨b, off, rfl, hb, hc⟩ := HL.out k hkL
      have FX := Lib.hid hc
      have hsz := HS.out _ (List.getElem_mem hkL)
      clear hc
      generalize L[k] = q at FX hsz
      obtain ⟨A, hA⟩ : ∃ A, putA s q = A := ⟨_, rfl⟩
      have i0 : (0 : Int) ≤ (k : Int) := by omega
      have i1 : (k : Int) < (n : Int) := by omega
      have i2 : (k : Int) < (kk : Int) := by omega
      have hsm : q.data.size ≤ maxLen := by unfold maxLen; omega
      have HPut : Hid (∀ u, Sto layP u w.heap.size s → Calls Try.prog 14 #[.pointer (some ⟨w.heap.size, 0, none⟩), .agg #[.int .i64 q.client, .int .i64 q.seq, .int .i64 q.kind, .int .i64 q.id, .int .i64 q.mtch, .string q.data]] u (PutR layP w.heap.size A.s A.code A.ver A.data A.err u)) :=
        fun u hu => sput_r w.heap.size s A.s k q.client q.seq q.kind q.id q.mtch q.data A.code A.ver A.data A.err (show _ = _ from hA) hsm HFt.out (by omega) u hu
      have HRut : Hid (∀ u, Sto layR u bb s → Calls Try.prog 15 #[.pointer (some ⟨bb, 0, none⟩), .agg #[.int .i64 q.client, .int .i64 q.seq, .int .i64 q.kind, .int .i64 q.id, .int .i64 q.mtch, .string q.data]] u (PutR layR bb A.s A.code A.ver A.data A.err u)) :=
        fun u hu => rput_r bb s A.s k q.client q.seq q.kind q.id q.mtch q.data A.code A.ver A.data A.err (show _ = _ from hA) hsm HFt.out (by omega) u hu
      have HFA : Hid (Fit A.s (k + 1)) := by have := HFt.out.put q; rw [hA] at this; exact this
      clear hkL hA hsm
      obtain ⟨s', cc, vv, dd, x⟩ := A
      obtain ⟨cl, sq, kd, id, mt, dt⟩ := q
      simp only at hsz HPut HRut HFA
      unfold ReqCells at FX
      simp only at FX
      obtain ⟨f0, f1, f2, f3, f4, f5⟩ := FX.out wr HB.out
      go_wp2_with fail
      refine (HPut.out _ HA.out).mono ?_
      rintro e w3 ⟨a3, c3, rfl, _, B3, S3⟩
      have Cw := Lib.hid (B3.below HB.out (Nat.le_refl _) HB.out.size)
      have Sa := Lib.hid S3
      have Sb := Lib.hid (HBs.out.besides HA.out.noBool B3 hne)
      clear B3 S3 f0 f1 f2 f3 f4 f5
      obtain ⟨f0, f1, f2, f3, f4, f5⟩ := FX.out w3 Cw.out
      go_wp2_with fail
      refine (HRut.out _ Sb.out).mono ?_
      rintro e w5 ⟨a5, c5, rfl, _, B5, S5⟩
      have Cw6 := Lib.hid (B5.below Cw.out hle Cw.out.size)
      have Sb6 := Lib.hid S5
      have Sa6 := Lib.hid (Sa.out.besides Sb.out.noBool B5 hne')
      clear B5 S5 Sa Sb Cw f0 f1 f2 f3 f4 f5
      go_wp2
      go_roundw
      case rel =>
        first
          | exact ⟨k + 1, s', by omega, by go_num, HFA.out, Sa6.out, Sb6.out, Cw6.out⟩
          | ((repeat apply Exists.intro); exact ⟨⟨k + 1, s', by omega, by go_num, HFA.out, Sa6.out, Sb6.out, Cw6.out⟩, rfl⟩)
      case measure => simp [intOf]; omega
    · obtain rfl : kk = k := by omega
      obtain ⟨S, hS⟩ : ∃ S, stoS s = S := ⟨_, rfl⟩
      have HBy : Hid (∀ u, Below wr.heap.size wr u → Calls Try.prog 20 #[.pointer (some ⟨w.heap.size, 0, none⟩)] u (BytesStr S u)) := fun u hu => by rw [← hS]; exact sbytes_s w.heap.size s kk u (HA.out.on hu) HFt.out (by omega)
      have HRy : Hid (∀ u, Below wr.heap.size wr u → Calls Try.prog 28 #[.pointer (some ⟨bb, 0, none⟩)] u fun e w' => e = .returned (.string S) ∧ Below u.heap.size u w') := fun u hu => by rw [← hS]; exact rbytes_s bb s kk u (HBs.out.on hu) HFt.out (by omega)
      have HX : Hid (∀ X u, Below wr.heap.size wr X → Below X.heap.size X u → Below wr.heap.size wr u) := fun X u hX hu => hX.trans (hu.mono hX.size)
      clear hS
      go_upto_region 13 with fail
      go_cut [62] (fun s62 wc => s62 = .bool false ∧ Hid (Below wr.heap.size wr wc))
      case first =>
        go_region_with (first
        | (go_at_call 11; refine (HT.out _).mono ?_; rintro e w3 ⟨rfl, B3⟩; have C3 := HX.out _ _ (by first | assumption | go_grown) B3)
        | (go_at_call 20; refine (HBy.out _ (by first | assumption | go_grown)).mono ?_; rintro e w3 ⟨ax, nx, cx, rfl, hkc, B3⟩; have C3 := HX.out _ _ (by first | assumption | go_grown) B3; have hkr := Below.refl w3.heap.size w3)
        | (go_at_call 28; refine (HRy.out _ (by first | assumption | go_grown)).mono ?_; rintro e w3 ⟨rfl, B3⟩; have C3 := HX.out _ _ (by first | assumption | go_grown) B3))

        all_goals
          go_wp2
          go_meet
        all_goals exact ⟨rfl, C3⟩
      case rest =>
        obtain ⟨rfl, HC⟩ := hcut
        have Sa := Lib.hid (HA.out.on HC.out)
        have Sb := Lib.hid (HBs.out.on HC.out)
        have Cw := Lib.hid (HB.out.trans (HC.out.mono HB.out.size))
        have kk0 : kk ≤ n := hkk
        obtain ⟨ko, hko⟩ : ∃ x, x = kk := ⟨_, rfl⟩
        obtain ⟨so, hso⟩ : ∃ x, x = s := ⟨_, rfl⟩
        rw [← hko] at hkk kp kn ⊢
        rw [← hso] at Sa Sb
        have HF2 : Hid (Fit so ko) := by rw [hso, hko]; exact HFt.out
        clear HC HB HFt HA HBs HBy HRy HX hko hso
        go_wp2
        go_loopw [10] (fun vi wr => ∃ (k : Nat) (s : StoV), k ≤ n ∧ ko ≤ k ∧ vi = .int .i64 k ∧ Fit s k ∧ Sto layP wr w.heap.size s ∧ Sto layR wr bb s ∧ Below w.heap.size w wr) (fun vi _ => n - (intOf vi).toNat)
        case atStart => exact ⟨ko, so, by omega, by omega, rfl, HF2.out, Sa.out, Sb.out, Cw.out⟩
        case round =>
          obtain ⟨k, s, hk, hk0, rfl, hf, hsa, hsb, hbel⟩ := hrel
          have HFt := Lib.hid hf
          have HA := Lib.hid hsa
          have HBs := Lib.hid hsb
          have HB := Lib.hid hbel
          clear hf hsa hsb hbel
          by_cases hlt : k < n
          · have hkL : k < L.length := by rw [HN.out]; omega
            obtain ⟨b, off, rfl, hb, hc⟩ := HL.out k hkL
            have FX := Lib.hid hc
            have hsz := HS.out _ (List.getElem_mem hkL)
            clear hc
            generalize L[k] = q at FX hsz
            obtain ⟨A, hA⟩ : ∃ A, putA s q = A := ⟨_, rfl⟩
            have i0 : (0 : Int) ≤ (k : Int) := by omega
            have i1 : (k : Int) < (n : Int) := by omega
            have i2 : (k : Int) < (n : Int) := by omega
            have hsm : q.data.size ≤ maxLen := by unfold maxLen; omega
            have HPut : Hid (∀ u, Sto layP u w.heap.size s → Calls Try.prog 14 #[.pointer (some ⟨w.heap.size, 0, none⟩), .agg #[.int .i64 q.client, .int .i64 q.seq, .int .i64 q.kind, .int .i64 q.id, .int .i64 q.mtch, .string q.data]] u (PutR layP w.heap.size A.s A.code A.ver A.data A.err u)) :=
              fun u hu => sput_r w.heap.size s A.s k q.client q.seq q.kind q.id q.mtch q.data A.code A.ver A.data A.err (show _ = _ from hA) hsm HFt.out (by omega) u hu
            have HRut : Hid (∀ u, Sto layR u bb s → Calls Try.prog 15 #[.pointer (some ⟨bb, 0, none⟩), .agg #[.int .i64 q.client, .int .i64 q.seq, .int .i64 q.kind, .int .i64 q.id, .int .i64 q.mtch, .string q.data]] u (PutR layR bb A.s A.code A.ver A.data A.err u)) :=
              fun u hu => rput_r bb s A.s k q.client q.seq q.kind q.id q.mtch q.data A.code A.ver A.data A.err (show _ = _ from hA) hsm HFt.out (by omega) u hu
            have HFA : Hid (Fit A.s (k + 1)) := by have := HFt.out.put q; rw [hA] at this; exact this
            clear hkL hA hsm
            obtain ⟨s', cc, vv, dd, x⟩ := A
            obtain ⟨cl, sq, kd, id, mt, dt⟩ := q
            simp only at hsz HPut HRut HFA
            unfold ReqCells at FX
            simp only at FX
            obtain ⟨f0, f1, f2, f3, f4, f5⟩ := FX.out wr HB.out
            go_wp2_with fail
            refine (HPut.out _ HA.out).mono ?_
            rintro e w3 ⟨a3, c3, rfl, _, B3, S3⟩
            have Cw := Lib.hid (B3.below HB.out (Nat.le_refl _) HB.out.size)
            have Sa := Lib.hid S3
            have Sb := Lib.hid (HBs.out.besides HA.out.noBool B3 hne)
            clear B3 S3 f0 f1 f2 f3 f4 f5
            obtain ⟨f0, f1, f2, f3, f4, f5⟩ := FX.out w3 Cw.out
            go_wp2_with fail
            refine (HRut.out _ Sb.out).mono ?_
            rintro e w5 ⟨a5, c5, rfl, _, B5, S5⟩
            have Cw6 := Lib.hid (B5.below Cw.out hle Cw.out.size)
            have Sb6 := Lib.hid S5
            have Sa6 := Lib.hid (Sa.out.besides Sb.out.noBool B5 hne')
            clear B5 S5 Sa Sb Cw f0 f1 f2 f3 f4 f5
            go_wp2
            go_roundw
            case rel =>
              first
                | exact ⟨k + 1, s', by omega, by omega, by go_num, HFA.out, Sa6.out, Sb6.out, Cw6.out⟩
                | ((repeat apply Exists.intro); exact ⟨⟨k + 1, s', by omega, by omega, by go_num, HFA.out, Sa6.out, Sb6.out, Cw6.out⟩, rfl⟩)
            case measure => simp [intOf]; omega
          · obtain rfl : k = n := by omega
            obtain ⟨S, hS⟩ : ∃ S, stoS s = S := ⟨_, rfl⟩
            have HBy : Hid (∀ u, Below wr.heap.size wr u → Calls Try.prog 20 #[.pointer (some ⟨w.heap.size, 0, none⟩)] u (BytesStr S u)) := fun u hu => by rw [← hS]; exact sbytes_s w.heap.size s k u (HA.out.on hu) HFt.out (by omega)
            have HRy : Hid (∀ u, Below wr.heap.size wr u → Calls Try.prog 28 #[.pointer (some ⟨bb, 0, none⟩)] u fun e w' => e = .returned (.string S) ∧ Below u.heap.size u w') := fun u hu => by rw [← hS]; exact rbytes_s bb s k u (HBs.out.on hu) HFt.out (by omega)
            have HX : Hid (∀ X u, Below wr.heap.size wr X → Below X.heap.size X u → Below wr.heap.size wr u) := fun X u hX hu => hX.trans (hu.mono hX.size)
            clear hS
            go_wp2_with fail
            go_region_with (first
              | (go_at_call 11; refine (HT.out _).mono ?_; rintro e w3 ⟨rfl, B3⟩; have C3 := HX.out _ _ (by first | assumption | go_grown) B3)
              | (go_at_call 20; refine (HBy.out _ (by first | assumption | go_grown)).mono ?_; rintro e w3 ⟨ax, nx, cx, rfl, hkc, B3⟩; have C3 := HX.out _ _ (by first | assumption | go_grown) B3; have hkr := Below.refl w3.heap.size w3)
              | (go_at_call 28; refine (HRy.out _ (by first | assumption | go_grown)).mono ?_; rintro e w3 ⟨rfl, B3⟩; have C3 := HX.out _ _ (by first | assumption | go_grown) B3))

            all_goals
              go_wp2
              go_returns
              exact ⟨rfl, HB.out.trans (C3.mono HB.out.size)⟩

theorem walk (v : Value) (L : List ReqV) (cut : Int) (w : World) (hV : Reqs w w.heap.size v L) (_ : (Lit.int .i64 cut).wf = true) :
    Calls Try.prog 8 #[v, .int .i64 cut] w fun e w' => e = .returned (.bool true) ∧ Below w.heap.size w w' := by
  have hV' := hV
  obtain ⟨ao, cap, rfl, _⟩ := hV
  obtain ⟨hat, _, hml, hms⟩ := reqs_at hV'
  obtain ⟨kk, hkk, hid⟩ := modn cut ((L.length : Int) + 1) (by omega)
  have HF : ∀ R, R = decide (fewR L) → Hid (∀ u, Below w.heap.size w u → Calls Try.prog 12 #[.slice ao L.length cap] u fun e w' => e = .returned (.bool R) ∧ u = w') :=
    fun R hR u hu => few5_r ao _ cap L u rfl (reqs_on hV' hu) R hR
  by_cases hf : fewR L
  · have h1 := HF true (decide_eq_true hf).symm
    by_cases h80 : L.length ≤ 80
    · exact run ao _ cap L cut kk w rfl h80 hf.1 hat (by omega) hid h1
    · exact many ao _ cap cut true w (.inr (by omega)) h1
  · exact many ao _ cap cut false w (.inl rfl) (HF false (decide_eq_false hf).symm)

set_option maxRecDepth 100000 in
theorem lifted (os : Os) (started : os.Started) (H : Type) (enc : TypeId × Value → H) :
    ReturnsInHanded {} Try.checked os 8 .any (Rows.storeFrontSpec.pre6 enc Try.prog Try.f8 Rows.storeFrontRow.domain false) (Rows.storeFrontSpec.post enc Try.prog Try.f8 false true false false) := by
  refine returnsInHanded_of_change (C := Try.checked) own started (by kernel_rfl) Try.func8
    (ChangeSpec.witness6 (enc := enc) (C := Try.checked) false ⟨#[], #[.slice none 0 0, .int .i64 0], []⟩ 8 (by kernel_rfl) (by kernel_rfl) (by kernel_rfl) (by kernel_rfl)) ?_
  intro W base args ds gs before hval0 hW hcnd _
  have hval : ∀ (j : Nat) t v, Try.f8.params[j]? = some t → args[j]? = some v → Value.okWide Try.prog W .any base t v := hval0
  have hW' := hW
  obtain ⟨p, q, hA0, hV, rfl, hfz, hnd⟩ := hW
  have hA : DataW.TrodAll enc Try.prog W 0 (fun _ => true) true Try.f8.params.toList args.toList ds p := hA0
  rw [Try.params8] at hA hval
  obtain ⟨v0, vs0, d0, ds0, p0, q0, hargs, rfl, rfl, h0, r0⟩ := trodAll_cons hA
  obtain ⟨v1, vs1, d1, ds1, p1, q1, rfl, rfl, rfl, h1, r1⟩ := trodAll_cons r0
  obtain ⟨rfl, rfl, rfl⟩ := trodAll_nil r1
  obtain rfl : args = #[v0, v1] := by cases args; simp_all
  obtain ⟨rfl, rfl⟩ := trodVars_none hV
  obtain ⟨a0, len0, cap0, rfl⟩ := okWide_slice Try.underlying22 (hval 0 22 v0 rfl rfl)
  have k0 := h0
  have lt0 : ∀ x ∈ p0, x.block < W.heap.size := by obtain ⟨m, hm⟩ := k0; exact DataW.trod_lt m _ _ _ hm
  obtain ⟨l0, w0⟩ := reqs_open h0
  obtain ⟨a1, rfl, rfl, rfl, w1⟩ := open_int Try.underlying3 (hval 1 3 v1 rfl rfl) h1
  clear hA0 hval0
  refine (walk (.slice a0 len0 cap0) l0 a1 W w0 w1).mono fun e W' ⟨he, bel⟩ => ?_
  subst he
  exact ⟨_, rfl, _, _, _, [], _, [], hW', trodAll_mk1 (shut_bool Try.underlying4 _), (trodAll_cons_mk (Below.trod laidOut (by kernel_rfl) (of_decide_eq_true (by kernel_rfl)) k0 bel lt0) (trodAll_cons_mk (shut_int Try.underlying3 w1) trodAll_mk0)), rfl, bel.frame _, fun h => by cases h⟩

theorem over : Rows.storeFrontRow.holds Try.pinned (OpenSpec.ofChange Rows.storeFrontSpec) :=
  OpenClaim.holds_of_wide 8 Try.f8 rfl rfl rfl rfl rfl rfl rfl ⟨rfl, rfl, rfl, rfl, rfl⟩ rfl rfl rfl rfl rfl (by kernel_rfl) Try.func8 (by kernel_rfl)
    (of_decide_eq_true (by kernel_rfl)) (by unfold Func.isWrapper; first | (rw [if_pos (by decide +kernel)]; kernel_rfl) | (rw [if_neg (by decide +kernel)]; exact ⟨rfl, rfl⟩))
    (fun os started H enc _ => lifted os started H enc)
end Go.Proofs.Yticokpaegadbbaa.StoreFront

namespace Go.Proofs.Yticokpaegadbbaa
theorem storeFront_holds : Rows.StoreFrontSaid := StoreFront.over
#print axioms storeFront_holds
end Go.Proofs.Yticokpaegadbbaa
