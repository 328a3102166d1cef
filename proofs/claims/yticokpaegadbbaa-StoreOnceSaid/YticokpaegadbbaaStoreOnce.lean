/-
  PROVED: casebooklaw5.StoreOnce answers true and leaves its argument as it was, for any requests: the row's own reading and nothing else is assumed.
-/
import Derived.Test.YticokpaegadbbaaStoreL
import Derived.Deep.RegionWith
namespace Go.Proofs.Yticokpaegadbbaa.StoreOnce
open Go.ChangeShapes Go.WideShapes Go.ChangeAt Go.RowKit

set_option maxRecDepth 100000 in
set_option maxHeartbeats 2000000 in
theorem many (ao : Option Addr) (n cap : Nat) (R : Bool) (w : World) (h : R = false ∨ 100 < n) (HF : Hid (∀ u, Below w.heap.size w u → Calls Try.prog 12 #[.slice ao n cap] u fun e w' => e = .returned (.bool R) ∧ u = w')) :
    Calls Try.prog 5 #[.slice ao n cap] w fun e w' => e = .returned (.bool true) ∧ Below w.heap.size w w' := by
  have H1 := Lib.hid (fun u => snew_r 9 (by decide) (by decide) u)
  have HT := Lib.hid (fun u => told5_any u)
  rcases (show R = false ∨ (R = true ∧ 100 < n) by cases R <;> simp_all) with rfl | ⟨rfl, h2⟩
  all_goals
    clear h
    go_enter Try.func5, Try.ntmps5
    go_wp2_with fail
    refine (H1.out _).mono ?_
    rintro e w1 ⟨rfl, _, _, B1⟩
    have C1 := Lib.hid B1
    clear B1
    go_wp2_with fail
    refine (HF.out _ C1.out).mono ?_
    rintro e w2 ⟨rfl, rfl⟩
    go_wp2_with fail
    refine (HT.out _).mono ?_
    rintro e w2 ⟨rfl, B2⟩
    have C2 := Lib.hid (C1.out.trans (B2.mono C1.out.size))
    clear B2
    go_wp2
    go_returns
    exact ⟨rfl, C2.out⟩

set_option maxRecDepth 100000 in
set_option maxHeartbeats 4000000 in
theorem run (ao : Option Addr) (n cap : Nat) (L : List ReqV) (w : World) (hn : L.length = n) (h100 : n ≤ 100) (hs : ∀ q ∈ L, q.data.size ≤ 100) (HL : Hid (ReqsAt w ao L))
    (HF : Hid (∀ u, Below w.heap.size w u → Calls Try.prog 12 #[.slice ao n cap] u fun e w' => e = .returned (.bool true) ∧ u = w')) :
    Calls Try.prog 5 #[.slice ao n cap] w fun e w' => e = .returned (.bool true) ∧ Below w.heap.size w w' := by
  have H1 := Lib.hid (fun u => snew_r 9 (by decide) (by decide) u)
  have HT := Lib.hid (fun u => told5_any u)
  have HN := Lib.hid hn
  have HS := Lib.hid hs
  clear hn hs
  go_enter Try.func5, Try.ntmps5
  go_wp2_with fail
  refine (H1.out _).mono ?_
  rintro e w1 ⟨rfl, S1, _, B1⟩
  have C1 := Lib.hid B1
  have T1 := Lib.hid S1
  clear B1 S1
  go_wp2_with fail
  refine (HF.out _ C1.out).mono ?_
  rintro e w2 ⟨rfl, rfl⟩
  go_wp2
  go_loopw [5, 6] (fun vd vi wr => ∃ (k d : Nat) (s : StoV), k ≤ n ∧ vi = .int .i64 k ∧ vd = .int .i64 d ∧ d ≤ k ∧ Hid (s.places = d) ∧ Fit s k ∧ Sto layP wr w.heap.size s ∧ Below w.heap.size w wr) (fun _ vi _ => n - (intOf vi).toNat)
  case atStart => exact ⟨0, 0, newV 9, by omega, rfl, rfl, by omega, (show _ = _ from rfl), Fit.new 9 (by decide) (by decide), T1.out, C1.out⟩
  case round =>
    obtain ⟨k, d, s, hk, rfl, rfl, hdk, HP, hf, hst, hbel⟩ := hrel
    have HFt := Lib.hid hf
    have HSt := Lib.hid hst
    have HB := Lib.hid hbel
    have hlt0 := hst.lt
    clear hf hst hbel
    by_cases hlt : k < n
    · have hkL : k < L.length := by rw [HN.out]; exact hlt
      obtain ⟨b, off, rfl, hb, hc⟩ := HL.out k hkL
      have FX := Lib.hid hc
      have hsz := HS.out _ (List.getElem_mem hkL)
      clear hc
      generalize L[k] = q at FX hsz
      obtain ⟨A, hA⟩ : ∃ A, putA s q = A := ⟨_, rfl⟩
      have HA := Lib.hid hA
      clear hA hkL
      have i0 : (0 : Int) ≤ (k : Int) := by omega
      have i1 : (k : Int) < (n : Int) := by omega
      have hsm : q.data.size ≤ maxLen := by unfold maxLen; omega
      have HPut : Hid (∀ u, Sto layP u w.heap.size s → Calls Try.prog 14 #[.pointer (some ⟨w.heap.size, 0, none⟩), .agg #[.int .i64 q.client, .int .i64 q.seq, .int .i64 q.kind, .int .i64 q.id, .int .i64 q.mtch, .string q.data]] u (PutR layP w.heap.size A.s A.code A.ver A.data A.err u)) :=
        fun u hu => sput_r w.heap.size s A.s k q.client q.seq q.kind q.id q.mtch q.data A.code A.ver A.data A.err (show _ = _ from HA.out) hsm HFt.out (by omega) u hu
      have HFA : Hid (Fit A.s (k + 1)) := by have := HFt.out.put q; rw [HA.out] at this; exact this
      have HPut2 : Hid (∀ x, putA A.s q = ⟨A.s, 0, 0, ⟨#[]⟩, x⟩ → ∀ u, Sto layP u w.heap.size A.s → Calls Try.prog 14 #[.pointer (some ⟨w.heap.size, 0, none⟩), .agg #[.int .i64 q.client, .int .i64 q.seq, .int .i64 q.kind, .int .i64 q.id, .int .i64 q.mtch, .string q.data]] u (PutR layP w.heap.size A.s 0 0 ⟨#[]⟩ x u)) :=
        fun x hx u hu => sput_r w.heap.size A.s A.s (k + 1) q.client q.seq q.kind q.id q.mtch q.data 0 0 ⟨#[]⟩ x (show _ = _ from hx) hsm HFA.out (by omega) u hu
      have HBy : Hid (∀ u, Below wr.heap.size wr u → Calls Try.prog 20 #[.pointer (some ⟨w.heap.size, 0, none⟩)] u (BytesStr (stoS s) u)) := fun u hu => sbytes_s w.heap.size s k u (HSt.out.on hu) HFt.out (by omega)
      have HSq : Hid (∀ u, Below wr.heap.size wr u → Calls Try.prog 22 #[.pointer (some ⟨w.heap.size, 0, none⟩), .int .i64 q.client] u fun e w' => e = .returned (.int .i64 (lastV s q.client).seq) ∧ Below u.heap.size u w') := fun u hu => sseq_r w.heap.size q.client s u (HSt.out.on hu)
      obtain ⟨S, hS⟩ : ∃ S, stoS s = S := ⟨_, rfl⟩
      rw [hS] at HBy
      have HSS := Lib.hid hS
      obtain ⟨sq0, hsq⟩ : ∃ x, (lastV s q.client).seq = x := ⟨_, rfl⟩
      rw [hsq] at HSq
      have HQ0 := Lib.hid hsq
      clear hS hsq
      have HX : Hid (∀ X u, Below wr.heap.size wr X → Below X.heap.size X u → Below wr.heap.size wr u ∧ ReqCells u b (off + k * 6) q) := fun X u hX hu => by
        have h := hX.trans (hu.mono hX.size)
        exact ⟨h, FX.out u (HB.out.trans (h.mono HB.out.size))⟩
      have hq0 := (FX.out wr HB.out).1
      obtain ⟨cl, sq, kd, id, mt, dt⟩ := q
      simp only at hq0 hsz
      unfold ReqCells at FX HX
      simp only at FX HX HPut HPut2 HSq
      clear hsm
      have HR0 : Hid (Below wr.heap.size wr wr) := Below.refl _ _
      go_upto_region 10 with fail
      go_cut [7, 8] (fun s7 s8 wc => s7 = .string S ∧ s8 = .int .i64 sq0 ∧ Hid (Below wr.heap.size wr wc))
      case first =>
        go_region_with (first
            | (go_at_call 20; refine (HBy.out _ (by first | assumption | go_grown)).mono ?_; rintro e w1 ⟨ax, nx, cx, rfl, hkc, B1⟩; obtain ⟨C1, f0, _⟩ := HX.out _ _ (by first | assumption | go_grown) B1; have hkr := Below.refl w1.heap.size w1)
            | (go_at_call 22; refine (HSq.out _ (by first | assumption | go_grown)).mono ?_; rintro e w2 ⟨rfl, B2⟩; obtain ⟨C2, f0, _⟩ := HX.out _ _ (by first | assumption | go_grown) B2))
        all_goals
          go_wp2
          go_meet
        all_goals first | exact ⟨rfl, rfl, C2⟩ | exact ⟨rfl, rfl, C1⟩
      case rest =>
        obtain ⟨rfl, rfl, HC⟩ := hcut
        have Cw : Hid (Below w.heap.size w wc) := HB.out.trans (HC.out.mono HB.out.size)
        have Sw := Lib.hid (HSt.out.on HC.out)
        obtain ⟨f0, f1, f2, f3, f4, f5⟩ := FX.out wc Cw.out
        clear HBy HSq HX HC HR0 hq0
        by_cases herr : A.err = 0
        · obtain ⟨hp, ho⟩ := putA_err s ⟨cl, sq, kd, id, mt, dt⟩ (by rw [HA.out]; exact herr)
          have hm := hp.1
          unfold ReqV.may at hm
          simp only at hm ho
          have hds := putA_done s ⟨cl, sq, kd, id, mt, dt⟩ hp ho
          rw [HA.out] at hds
          have hcl : A.s.cl cl.toNat = ⟨sq, A.code, A.ver, A.data, s.places + 1⟩ := by
            rw [hds]
            exact updF_same _ _ _
          have hlast : lastV A.s cl = ⟨sq, A.code, A.ver, A.data, (d : Int) + 1⟩ := by
            rw [lastV, if_pos (by omega), hcl, HP.out]
          have hpl : A.s.places = (d : Int) + 1 := by
            rw [hds, ← HP.out]
            rfl
          have hold : putA A.s ⟨cl, sq, kd, id, mt, dt⟩ = ⟨A.s, 0, 0, ⟨#[]⟩, 9⟩ := putA_old A.s _ hp (by show sq ≤ (A.s.cl cl.toNat).seq; rw [hcl]; exact Int.le_refl _)
          have hq9 : sq0 < sq := by
            rw [← HQ0.out, lastV, if_pos (by simp only; omega)]
            show (s.cl cl.toNat).seq < sq
            omega
          have hd : decide (sq ≤ sq0) = false := decide_eq_false (by omega)
          have HPl := Lib.hid hpl
          have HSq2 : Hid (∀ u, Sto layP u w.heap.size A.s → Calls Try.prog 22 #[.pointer (some ⟨w.heap.size, 0, none⟩), .int .i64 cl] u fun e w' => e = .returned (.int .i64 sq) ∧ Below u.heap.size u w') := fun u hu => by
            have h := sseq_r w.heap.size cl A.s u hu
            rwa [hlast] at h
          have HLn : Hid (∀ u, Sto layP u w.heap.size A.s → Calls Try.prog 21 #[.pointer (some ⟨w.heap.size, 0, none⟩)] u fun e w' => e = .returned (.int .i64 ((d : Int) + 1)) ∧ u = w') := fun u hu => by
            have h := slen_r w.heap.size A.s u hu
            rwa [hpl] at h
          have HLa : Hid (∀ u, Sto layP u w.heap.size A.s → Calls Try.prog 23 #[.pointer (some ⟨w.heap.size, 0, none⟩), .int .i64 cl] u (LastTold ⟨sq, A.code, A.ver, A.data, (d : Int) + 1⟩ u)) := fun u hu => by
            have h := slast_r w.heap.size cl A.s u hu
            rwa [hlast] at h
          have HPg : Hid (∀ u, Sto layP u w.heap.size A.s → Calls Try.prog 14 #[.pointer (some ⟨w.heap.size, 0, none⟩), .agg #[.int .i64 cl, .int .i64 sq, .int .i64 kd, .int .i64 id, .int .i64 mt, .string dt]] u (PutR layP w.heap.size A.s 0 0 ⟨#[]⟩ 9 u)) := HPut2.out 9 hold
          rw [herr] at HPut
          clear hp ho hm hds hcl hlast hpl hold hq9 herr HPut2 HQ0 HSS
          generalize A.code = cc at HPut HLa
          generalize A.ver = vv at HPut HLa
          generalize A.data = dd at HPut HLa
          have hdn : (d : Int) ≤ 100 := by omega
          go_wp2_with fail
          refine (HPut.out _ Sw.out).mono ?_
          rintro e w3 ⟨a3, c3, rfl, _, B3, S3⟩
          have Cw3 := Lib.hid (B3.below Cw.out (Nat.le_refl _) Cw.out.size)
          have al3 : Below w3.heap.size w3 (w3.alloc (.cells #[.int .i64 cc, .int .i64 vv, .string dd, .slice a3 0 c3] 34)) := (Below.refl _ _).alloc (Nat.le_refl _) _
          obtain ⟨w4, hw4⟩ : ∃ x, x = w3.alloc (.cells #[.int .i64 cc, .int .i64 vv, .string dd, .slice a3 0 c3] 34) := ⟨_, rfl⟩
          have Sw4 : Hid (Sto layP w4 w.heap.size A.s) := by rw [hw4]; exact S3.on al3
          have Cw4 : Hid (Below w.heap.size w w4) := by rw [hw4]; exact Cw3.out.trans (al3.mono Cw3.out.size)
          have HW4 := Lib.hid hw4
          clear B3 S3 al3 f0 f1 f2 f3 f4 f5 hw4
          go_upto_region 16 with fail
          rw [← HW4.out]
          obtain ⟨f0, f1, f2, f3, f4, f5⟩ := FX.out w4 Cw4.out
          have HX : Hid (∀ X u, Below w4.heap.size w4 X → Below X.heap.size X u → Below w4.heap.size w4 u ∧ u.cell? ⟨b, off + k * 6, none⟩ = some (.int .i64 cl) ∧ u.cell? ⟨b, off + k * 6 + 1, none⟩ = some (.int .i64 sq)) := fun X u hX hu => by
            have h := hX.trans (hu.mono hX.size)
            have g := FX.out u (Cw4.out.trans (h.mono Cw4.out.size))
            exact ⟨h, g.1, g.2.1⟩
          have HSq3 : Hid (∀ u, Below w4.heap.size w4 u → Calls Try.prog 22 #[.pointer (some ⟨w.heap.size, 0, none⟩), .int .i64 cl] u fun e w' => e = .returned (.int .i64 sq) ∧ Below u.heap.size u w') := fun u hu => HSq2.out u (Sw4.out.on hu)
          have HLn3 : Hid (∀ u, Below w4.heap.size w4 u → Calls Try.prog 21 #[.pointer (some ⟨w.heap.size, 0, none⟩)] u fun e w' => e = .returned (.int .i64 ((d : Int) + 1)) ∧ u = w') := fun u hu => HLn.out u (Sw4.out.on hu)
          go_region_held3 (fun u => u.cell? ⟨b, off + k * 6, none⟩ = some (.int .i64 cl) ∧ u.cell? ⟨b, off + k * 6 + 1, none⟩ = some (.int .i64 sq)) (first | assumption | go_keep)
            (first
              | (go_at_call 22; refine (HSq3.out _ (by first | assumption | go_grown)).mono ?_; rintro e w5 ⟨rfl, B5⟩; obtain ⟨C5, g0, g1⟩ := HX.out _ _ (by first | assumption | go_grown) B5)
              | (go_at_call 21; refine (HLn3.out _ (by first | assumption | go_grown)).mono ?_; rintro e w6 ⟨rfl, rfl⟩))
          rename_i hS
          have Sw5 := Lib.hid (Sw4.out.on C5)
          have Cw5 := Lib.hid (Cw4.out.trans (C5.mono Cw4.out.size))
          clear hS C5 g0 g1 f0 f1 f2 f3 f4 f5 HX HSq3 HLn3 HSq2 HLn hd HW4 Sw4 Cw4 Cw3
          obtain ⟨f0, f1, f2, f3, f4, f5⟩ := FX.out w5 Cw5.out
          go_wp2_with fail
          refine (HLa.out _ Sw5.out).mono ?_
          rintro e w6 ⟨a6, c6, rfl, n6, B6⟩
          have al6 : Below w6.heap.size w6 (w6.alloc (.cells #[.int .i64 cc, .int .i64 vv, .string dd, .slice a6 0 c6] 34)) := (Below.refl _ _).alloc (Nat.le_refl _) _
          have S6 := Sw5.out.on B6
          have C6 : Below w.heap.size w w6 := Cw5.out.trans (B6.mono Cw5.out.size)
          have Sw6 := Lib.hid (S6.on al6)
          have Cw6 := Lib.hid (C6.trans (al6.mono C6.size))
          have N6 := Lib.hid n6
          have lt6 := S6.lt
          clear B6 S6 C6 al6 n6 f0 f1 f2 f3 f4 f5
          obtain ⟨f0, f1, f2, f3, f4, f5⟩ := FX.out _ Cw6.out
          go_wp2_with fail
          refine (HPg.out _ Sw6.out).mono ?_
          rintro e w7 ⟨a7, c7, rfl, _, B7, S7⟩
          have R7 : RepAt w7 w6.heap.size cc vv dd (.slice a6 0 c6) := (RepAt.new w6 cc vv dd (.slice a6 0 c6)).besides B7 (by omega)
          have C7 := B7.below Cw6.out (Nat.le_refl _) Cw6.out.size
          have al7 : Below w7.heap.size w7 (w7.alloc (.cells #[.int .i64 0, .int .i64 0, .string ⟨#[]⟩, .slice a7 0 c7] 34)) := (Below.refl _ _).alloc (Nat.le_refl _) _
          have Rw7 := Lib.hid (R7.keep al7 R7.lt)
          have Sw7 := Lib.hid (S7.on al7)
          have Cw7 := Lib.hid (C7.trans (al7.mono C7.size))
          clear B7 S7 C7 al7 R7 f0 f1 f2 f3 f4 f5 Sw6 Cw6
          obtain ⟨f0, f1, f2, f3, f4, f5⟩ := FX.out _ Cw7.out
          go_wp2_with fail
          refine (HLa.out _ Sw7.out).mono ?_
          rintro e w8 ⟨a8, c8, rfl, n8, B8⟩
          have al8 : Below w8.heap.size w8 (w8.alloc (.cells #[.int .i64 cc, .int .i64 vv, .string dd, .slice a8 0 c8] 34)) := (Below.refl _ _).alloc (Nat.le_refl _) _
          have S8 := Sw7.out.on B8
          have C8 : Below w.heap.size w w8 := Cw7.out.trans (B8.mono Cw7.out.size)
          have R8 := Rw7.out.keep B8 Rw7.out.lt
          have Sw8 := Lib.hid (S8.on al8)
          have Cw8 := Lib.hid (C8.trans (al8.mono C8.size))
          have Rw8 := R8.keep al8 R8.lt
          have lt8 := Rw8.lt
          obtain ⟨⟨x0, x1, x2, x3⟩, _⟩ := Rw8.cells
          have hne : w8.heap.size ≠ w6.heap.size := by have := R8.lt; omega
          have HSm := Lib.hid (fun u => same_nil cc vv dd (.slice a6 0 c6) (.slice a8 0 c8) N6.out n8 u)
          clear B8 S8 C8 al8 R8 Rw8 n8 f0 f1 f2 f3 f4 f5 Sw7 Cw7 Rw7 lt6
          go_wp2_with fail
          refine (HSm.out _).mono ?_
          rintro e w9 ⟨rfl, B9⟩
          have Sw9 := Lib.hid (Sw8.out.on B9)
          have Cw9 := Lib.hid (Cw8.out.trans (B9.mono Cw8.out.size))
          clear B9 x0 x1 x2 x3 lt8 hne
          go_wp2
          go_roundw
          case rel => exact ⟨k + 1, d + 1, A.s, by omega, by go_num, by go_num, by omega, (show _ = _ by rw [HPl.out]; push_cast; rfl), HFA.out, Sw9.out, Cw9.out⟩
          case measure => simp [intOf]; omega
        · have hre := putA_refused s ⟨cl, sq, kd, id, mt, dt⟩ (by rw [HA.out]; exact herr)
          rw [HA.out] at hre
          have hAs : A.s = s := congrArg PutA.s hre
          have HAs := Lib.hid hAs
          have e0 : (A.err == 0) = false := beq_eq_false_iff_ne.2 herr
          have e1 : (A.err != 0) = true := bne_iff_ne.2 herr
          generalize A.err = x at HPut e0 e1
          generalize A.code = cc at HPut
          generalize A.ver = vv at HPut
          generalize A.data = dd at HPut
          have HBy : Hid (∀ u, Sto layP u w.heap.size A.s → Calls Try.prog 20 #[.pointer (some ⟨w.heap.size, 0, none⟩)] u (BytesStr S u)) := fun u hu => by
            rw [← HSS.out, ← HAs.out]
            exact sbytes_s w.heap.size A.s (k + 1) u hu HFA.out (by omega)
          clear hre hAs herr HA
          go_wp2_with fail
          refine (HPut.out _ Sw.out).mono ?_
          rintro e w3 ⟨a3, c3, rfl, _, B3, S3⟩
          have Cw3 := Lib.hid (B3.below Cw.out (Nat.le_refl _) Cw.out.size)
          have al3 : Below w3.heap.size w3 (w3.alloc (.cells #[.int .i64 cc, .int .i64 vv, .string dd, .slice a3 0 c3] 34)) := (Below.refl _ _).alloc (Nat.le_refl _) _
          have Sw3 := Lib.hid (S3.on al3)
          have Cw3' := Lib.hid (Cw3.out.trans (al3.mono Cw3.out.size))
          clear B3 S3 al3 f0 f1 f2 f3 f4 f5
          go_wp2_with fail
          refine (HBy.out _ Sw3.out).mono ?_
          rintro e w4 ⟨a4, n4, c4, rfl, hkc, B4⟩
          have Cw4 := Lib.hid (Cw3'.out.trans (B4.mono Cw3'.out.size))
          have Sw4 := Lib.hid (Sw3.out.on B4)
          have hkr := Below.refl w4.heap.size w4
          have hk4 := hkc _ hkr
          clear B4 hkc hkr
          go_wp2
          go_roundw
          case rel => exact ⟨k + 1, d, A.s, by omega, by go_num, rfl, by omega, (show _ = _ by rw [HAs.out]; exact HP.out), HFA.out, Sw4.out, Cw4.out⟩
          case measure => simp [intOf]; omega
    · obtain rfl : k = n := by omega
      go_wp2_with fail
      refine (HT.out _).mono ?_
      rintro e w2 ⟨rfl, B2⟩
      have C2 := Lib.hid (HB.out.trans (B2.mono HB.out.size))
      clear B2
      go_wp2
      go_returns
      exact ⟨rfl, C2.out⟩

theorem walk (v : Value) (L : List ReqV) (w : World) (hV : Reqs w w.heap.size v L) :
    Calls Try.prog 5 #[v] w fun e w' => e = .returned (.bool true) ∧ Below w.heap.size w w' := by
  have hV' := hV
  obtain ⟨ao, cap, rfl, _⟩ := hV
  obtain ⟨hat, _, hml, hms⟩ := reqs_at hV'
  have HF : ∀ R, R = decide (fewR L) → Hid (∀ u, Below w.heap.size w u → Calls Try.prog 12 #[.slice ao L.length cap] u fun e w' => e = .returned (.bool R) ∧ u = w') :=
    fun R hR u hu => few5_r ao _ cap L u rfl (reqs_on hV' hu) R hR
  by_cases hf : fewR L
  · have h1 := HF true (decide_eq_true hf).symm
    by_cases h100 : L.length ≤ 100
    · exact run ao _ cap L w rfl h100 hf.1 hat h1
    · exact many ao _ cap true w (.inr (by omega)) h1
  · exact many ao _ cap false w (.inl rfl) (HF false (decide_eq_false hf).symm)

set_option maxRecDepth 100000 in
theorem lifted (os : Os) (started : os.Started) (H : Type) (enc : TypeId × Value → H) :
    ReturnsInHanded {} Try.checked os 5 .any (Rows.storeOnceSpec.pre6 enc Try.prog Try.f5 Rows.storeOnceRow.domain false) (Rows.storeOnceSpec.post enc Try.prog Try.f5 false true false false) := by
  refine returnsInHanded_of_change (C := Try.checked) own started (by kernel_rfl) Try.func5
    (ChangeSpec.witness6 (enc := enc) (C := Try.checked) false ⟨#[], #[.slice none 0 0], []⟩ 8 (by kernel_rfl) (by kernel_rfl) (by kernel_rfl) (by kernel_rfl)) ?_
  intro W base args ds gs before hval0 hW hcnd _
  have hval : ∀ (j : Nat) t v, Try.f5.params[j]? = some t → args[j]? = some v → Value.okWide Try.prog W .any base t v := hval0
  have hW' := hW
  obtain ⟨p, q, hA0, hV, rfl, hfz, hnd⟩ := hW
  have hA : DataW.TrodAll enc Try.prog W 0 (fun _ => true) true Try.f5.params.toList args.toList ds p := hA0
  rw [Try.params5] at hA hval
  obtain ⟨v0, vs0, d0, ds0, p0, q0, hargs, rfl, rfl, h0, r0⟩ := trodAll_cons hA
  obtain ⟨rfl, rfl, rfl⟩ := trodAll_nil r0
  obtain rfl : args = #[v0] := by cases args; simp_all
  obtain ⟨rfl, rfl⟩ := trodVars_none hV
  obtain ⟨a0, len0, cap0, rfl⟩ := okWide_slice Try.underlying22 (hval 0 22 v0 rfl rfl)
  have k0 := h0
  have lt0 : ∀ x ∈ p0, x.block < W.heap.size := by obtain ⟨m, hm⟩ := k0; exact DataW.trod_lt m _ _ _ hm
  obtain ⟨l0, w0⟩ := reqs_open h0
  clear hA0 hval0
  refine (walk (.slice a0 len0 cap0) l0 W w0).mono fun e W' ⟨he, bel⟩ => ?_
  subst he
  exact ⟨_, rfl, _, _, _, [], _, [], hW', trodAll_mk1 (shut_bool Try.underlying4 _), (trodAll_cons_mk (Below.trod laidOut (by kernel_rfl) (of_decide_eq_true (by kernel_rfl)) k0 bel lt0) trodAll_mk0), rfl, bel.frame _, fun h => by cases h⟩

theorem over : Rows.storeOnceRow.holds Try.pinned (OpenSpec.ofChange Rows.storeOnceSpec) :=
  OpenClaim.holds_of_wide 5 Try.f5 rfl rfl rfl rfl rfl rfl rfl ⟨rfl, rfl, rfl, rfl, rfl⟩ rfl rfl rfl rfl rfl (by kernel_rfl) Try.func5 (by kernel_rfl)
    (of_decide_eq_true (by kernel_rfl)) (by unfold Func.isWrapper; first | (rw [if_pos (by decide +kernel)]; kernel_rfl) | (rw [if_neg (by decide +kernel)]; exact ⟨rfl, rfl⟩))
    (fun os started H enc _ => lifted os started H enc)
end Go.Proofs.Yticokpaegadbbaa.StoreOnce

namespace Go.Proofs.Yticokpaegadbbaa
theorem storeOnce_holds : Rows.StoreOnceSaid := StoreOnce.over
#print axioms storeOnce_holds
end Go.Proofs.Yticokpaegadbbaa
