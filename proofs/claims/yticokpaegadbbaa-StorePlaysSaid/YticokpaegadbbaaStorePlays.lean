/-
  PROVED: casebooklaw5.StorePlays answers true and leaves its arguments as they were, for any quota, any requests: the row's own reading and nothing else is assumed.
-/
import Derived.Test.YticokpaegadbbaaStoreE
import Derived.Test.YticokpaegadbbaaStoreU
namespace Go.Proofs.Yticokpaegadbbaa.StorePlays
open Go.ChangeShapes Go.WideShapes Go.ChangeAt Go.RowKit

theorem askA_list {s : StoV} {N : Nat} (h : Fit s N) (q : ReqV) : (askA s q).r.list.length ≤ 100 := by
  unfold askA
  split
  · rename_i ha
    have hm := ha.1
    unfold ReqV.may at hm
    have h1 := (h.res q.id.toNat (by omega)).1
    have h2 := askV_list (s.res q.id.toNat) q.kind q.mtch
    show (askV _ _ _).list.length ≤ 100
    omega
  · exact Nat.zero_le _

set_option maxRecDepth 100000 in
set_option maxHeartbeats 2000000 in
theorem bad (v : Value) (q : Int) (w : World) (h : q < 1 ∨ 100 < q) :
    Calls Try.prog 3 #[.int .i64 q, v] w fun e w' => e = .returned (.bool true) ∧ Below w.heap.size w w' := by
  have H1 := Lib.hid (fun u => snew_bad q h u)
  have HT := Lib.hid (fun u => told5_any u)
  rcases (show q < 1 ∨ (1 ≤ q ∧ 100 < q) by omega) with h1 | ⟨h1, h2⟩
  all_goals
    clear h
    go_enter Try.func3, Try.ntmps3
    go_wp2_with fail
    refine (H1.out _).mono ?_
    rintro e w2 ⟨rfl, rfl⟩
    go_wp2_with fail
    refine (HT.out _).mono ?_
    rintro e w2 ⟨rfl, B2⟩
    have C2 := Lib.hid B2
    clear B2
    go_wp2
    go_returns
    exact ⟨rfl, C2.out⟩

set_option maxRecDepth 100000 in
set_option maxHeartbeats 2000000 in
theorem many (v : Value) (q : Int) (w : World) (h1 : 1 ≤ q) (h2 : q ≤ 100) (HF : Hid (∀ u, Below w.heap.size w u → Calls Try.prog 12 #[v] u fun e w' => e = .returned (.bool false) ∧ u = w')) :
    Calls Try.prog 3 #[.int .i64 q, v] w fun e w' => e = .returned (.bool true) ∧ Below w.heap.size w w' := by
  have H1 := Lib.hid (fun u => snew_r q h1 h2 u)
  have HT := Lib.hid (fun u => told5_any u)
  go_enter Try.func3, Try.ntmps3
  go_wp2_with fail
  refine (H1.out _).mono ?_
  rintro e w1 ⟨rfl, _, _, B1⟩
  have C1 := Lib.hid B1
  clear B1
  go_wp2_with fail
  refine (HF.out _ C1.out).mono ?_
  rintro e w2 ⟨rfl, rfl⟩
  go_wp2_with fail
  refine (HT.out _).mono ?_
  rintro e w2 ⟨rfl, B2⟩
  have C2 := Lib.hid (C1.out.trans (B2.mono C1.out.size))
  clear B2
  go_wp2
  go_returns
  exact ⟨rfl, C2.out⟩

set_option maxRecDepth 100000 in
set_option maxHeartbeats 8000000 in
theorem run (ao : Option Addr) (n cap : Nat) (L : List ReqV) (q : Int) (w : World) (h1 : 1 ≤ q) (h2 : q ≤ 100) (hn : L.length = n) (h200 : n ≤ 200) (hs : ∀ q ∈ L, q.data.size ≤ 100) (HL : Hid (ReqsAt w ao L))
    (HF : Hid (∀ u, Below w.heap.size w u → Calls Try.prog 12 #[.slice ao n cap] u fun e w' => e = .returned (.bool true) ∧ u = w')) :
    Calls Try.prog 3 #[.int .i64 q, .slice ao n cap] w fun e w' => e = .returned (.bool true) ∧ Below w.heap.size w w' := by
  have H1 := Lib.hid (fun u => snew_r q h1 h2 u)
  have HT := Lib.hid (fun u => told5_any u)
  have HN := Lib.hid hn
  have HS := Lib.hid hs
  have HFn := Lib.hid (Fit.new q h1 h2)
  clear hn hs
  go_enter Try.func3, Try.ntmps3
  go_wp2_with fail
  refine (H1.out _).mono ?_
  rintro e w1 ⟨rfl, S1, z1, B1⟩
  have C1 := Lib.hid B1
  have T1 := Lib.hid S1
  have Z1 := Lib.hid z1
  clear B1 S1 z1
  go_wp2_with fail
  refine (HF.out _ C1.out).mono ?_
  rintro e w2 ⟨rfl, rfl⟩
  go_wp2
  obtain ⟨w2, hw2⟩ : ∃ x, x = w1.alloc (.cells #[.int .i64 q, .int .i64 0, .slice none 0 0, .slice none 0 0, .slice none 0 0, .slice none 0 0, .slice none 0 0, .slice none 0 0, .slice none 0 0, .slice none 0 0, .slice none 0 0, .slice none 0 0, .slice none 0 0, .slice none 0 0, .slice none 0 0, .slice none 0 0, .slice none 0 0, .slice none 0 0, .slice none 0 0, .slice none 0 0, .slice none 0 0, .slice none 0 0, .slice none 0 0, .slice none 0 0, .slice none 0 0, .slice none 0 0, .slice none 0 0, .slice none 0 0, .slice none 0 0, .slice none 0 0, .slice none 0 0, .slice none 0 0, .slice none 0 0, .slice none 0 0, .int .i64 0, .int .i64 0, .int .i64 0, .int .i64 0, .int .i64 0, .int .i64 0, .int .i64 0, .int .i64 0, .int .i64 0, .int .i64 0, .string ⟨#[]⟩, .slice none 0 0, .int .i64 0, .int .i64 0, .string ⟨#[]⟩, .slice none 0 0, .int .i64 0, .int .i64 0, .string ⟨#[]⟩, .slice none 0 0, .int .i64 0, .int .i64 0, .string ⟨#[]⟩, .slice none 0 0] 37) := ⟨_, rfl⟩
  rw [← hw2]
  have al2 : Below w1.heap.size w1 w2 := by rw [hw2]; exact (Below.refl _ _).alloc (Nat.le_refl _) _
  have T2 : Hid (Sto layR w2 w1.heap.size (newV q)) := by
    obtain ⟨g1, g2⟩ := newG_row q #[.int .i64 q, .int .i64 0, .slice none 0 0, .slice none 0 0, .slice none 0 0, .slice none 0 0, .slice none 0 0, .slice none 0 0, .slice none 0 0, .slice none 0 0, .slice none 0 0, .slice none 0 0, .slice none 0 0, .slice none 0 0, .slice none 0 0, .slice none 0 0, .slice none 0 0, .slice none 0 0, .slice none 0 0, .slice none 0 0, .slice none 0 0, .slice none 0 0, .slice none 0 0, .slice none 0 0, .slice none 0 0, .slice none 0 0, .slice none 0 0, .slice none 0 0, .slice none 0 0, .slice none 0 0, .slice none 0 0, .slice none 0 0, .slice none 0 0, .slice none 0 0, .int .i64 0, .int .i64 0, .int .i64 0, .int .i64 0, .int .i64 0, .int .i64 0, .int .i64 0, .int .i64 0, .int .i64 0, .int .i64 0, .string ⟨#[]⟩, .slice none 0 0, .int .i64 0, .int .i64 0, .string ⟨#[]⟩, .slice none 0 0, .int .i64 0, .int .i64 0, .string ⟨#[]⟩, .slice none 0 0, .int .i64 0, .int .i64 0, .string ⟨#[]⟩, .slice none 0 0] (by rfl)
    rw [hw2]
    exact ⟨newG q, ⟨_, heap_alloc_new w1 _, g1, g2⟩, newG_tell q _⟩
  have T1' := Lib.hid (T1.out.on al2)
  have C2 := Lib.hid (C1.out.trans (al2.mono C1.out.size))
  obtain ⟨bb, hbb⟩ : ∃ x, x = w1.heap.size := ⟨_, rfl⟩
  rw [← hbb] at T2 ⊢
  have hne : bb ≠ w.heap.size := by rw [hbb, Z1.out]; omega
  have hle : w.heap.size ≤ bb := by rw [hbb, Z1.out]; omega
  have hne' := hne.symm
  clear hbb Z1 hw2 al2 T1 C1
  go_loopw [8] (fun vi wr => ∃ (k : Nat) (s : StoV), k ≤ n ∧ vi = .int .i64 k ∧ Fit s k ∧ Sto layP wr w.heap.size s ∧ Sto layR wr bb s ∧ Below w.heap.size w wr) (fun vi _ => n - (intOf vi).toNat)
  case atStart => exact ⟨0, newV q, by omega, rfl, HFn.out, T1'.out, T2.out, C2.out⟩
  case round =>
    obtain ⟨k, s, hk, rfl, hf, hsa, hsb, hbel⟩ := hrel
    have HFt := Lib.hid hf
    have HA := Lib.hid hsa
    have HBs := Lib.hid hsb
    have HB := Lib.hid hbel
    have hlb := hsb.lt
    clear hf hsa hsb hbel T1' T2 C2
    by_cases hlt : k < n
    · have hkL : k < L.length := by rw [HN.out]; omega
      obtain ⟨b, off, rfl, hb, hc⟩ := HL.out k hkL
      have FX := Lib.hid hc
      have hsz := HS.out _ (List.getElem_mem hkL)
      clear hc
      generalize L[k] = q at FX hsz
      have i0 : (0 : Int) ≤ (k : Int) := by omega
      have i1 : (k : Int) < (n : Int) := by omega
      have hsm : q.data.size ≤ maxLen := by unfold maxLen; omega
      obtain ⟨cl, sq, kd, id, mt, dt⟩ := q
      simp only at hsz hsm
      unfold ReqCells at FX
      simp only at FX
      have HSm0 := Lib.hid hsm
      obtain ⟨R1, hR1⟩ : ∃ R, (bits BinOp.and IntKind.i64 (k : Int) 1 == 0) = R := ⟨_, rfl⟩
      obtain ⟨R2, hR2⟩ : ∃ R, (bits BinOp.and IntKind.i64 (k : Int) 15 == 15) = R := ⟨_, rfl⟩
      obtain ⟨R3, hR3⟩ : ∃ R, R = decide (1 ≤ kd ∧ kd ≤ 3) := ⟨_, rfl⟩
      have HWr : Hid (∀ u, Calls Try.prog 13 #[.agg #[.int .i64 cl, .int .i64 sq, .int .i64 kd, .int .i64 id, .int .i64 mt, .string dt]] u fun e w' => e = .returned (.bool R3) ∧ Below u.heap.size u w') :=
        fun u => refwrites_r cl sq kd id mt dt R3 hR3 u
      clear hR3 hkL hsm hsz
      by_cases hput : R1 = true ∨ R3 = true
      · obtain ⟨A, hA⟩ : ∃ A, putA s ⟨cl, sq, kd, id, mt, dt⟩ = A := ⟨_, rfl⟩
        have HPut : Hid (∀ u, Sto layP u w.heap.size s → Calls Try.prog 14 #[.pointer (some ⟨w.heap.size, 0, none⟩), .agg #[.int .i64 cl, .int .i64 sq, .int .i64 kd, .int .i64 id, .int .i64 mt, .string dt]] u (PutR layP w.heap.size A.s A.code A.ver A.data A.err u)) :=
          fun u hu => sput_r w.heap.size s A.s k cl sq kd id mt dt A.code A.ver A.data A.err (show _ = _ from hA) HSm0.out HFt.out (by omega) u hu
        have HRut : Hid (∀ u, Sto layR u bb s → Calls Try.prog 15 #[.pointer (some ⟨bb, 0, none⟩), .agg #[.int .i64 cl, .int .i64 sq, .int .i64 kd, .int .i64 id, .int .i64 mt, .string dt]] u (PutR layR bb A.s A.code A.ver A.data A.err u)) :=
          fun u hu => rput_r bb s A.s k cl sq kd id mt dt A.code A.ver A.data A.err (show _ = _ from hA) HSm0.out HFt.out (by omega) u hu
        have HFA : Hid (Fit A.s (k + 1)) := by have := HFt.out.put ⟨cl, sq, kd, id, mt, dt⟩; rw [hA] at this; exact this
        clear hA HFt
        obtain ⟨s', cc, vv, dd, x⟩ := A
        simp only at HPut HRut HFA
        cases R1 with
        | true =>
          obtain ⟨f0, f1, f2, f3, f4, f5⟩ := FX.out wr HB.out
          go_wp2_with fail
          refine (HPut.out _ HA.out).mono ?_
          rintro e w3 ⟨a3, c3, rfl, n3, B3, S3⟩
          have Cw := Lib.hid (B3.below HB.out (Nat.le_refl _) HB.out.size)
          have Sa := Lib.hid S3
          have Sb := Lib.hid (HBs.out.besides HA.out.noBool B3 hne)
          have hl3 : bb < w3.heap.size := Sb.out.lt
          have N3 := Lib.hid n3
          clear B3 S3 n3 f0 f1 f2 f3 f4 f5
          obtain ⟨w4, hw4⟩ : ∃ x, x = w3.alloc (.cells #[.int .i64 cc, .int .i64 vv, .string dd, .slice a3 0 c3] 34) := ⟨_, rfl⟩
          have al4 : Below w3.heap.size w3 w4 := by rw [hw4]; exact (Below.refl _ _).alloc (Nat.le_refl _) _
          have RA4 : Hid (RepAt w4 w3.heap.size cc vv dd (.slice a3 0 c3)) := by rw [hw4]; exact RepAt.new w3 cc vv dd (.slice a3 0 c3)
          have HW4 := Lib.hid hw4
          have C4 := Lib.hid (Cw.out.trans (al4.mono Cw.out.size))
          have Sa4 := Lib.hid (Sa.out.on al4)
          have Sb4 := Lib.hid (Sb.out.on al4)
          obtain ⟨f0, f1, f2, f3, f4, f5⟩ := FX.out w4 C4.out
          have hn3 : w3.heap.size ≠ bb := by omega
          clear al4 hw4 Cw Sa Sb
          go_upto_region 14 with fail
          rw [← HW4.out]
          go_wp2_with fail
          refine (HRut.out _ Sb4.out).mono ?_
          rintro e w5 ⟨a5, c5, rfl, n5, B5, S5⟩
          have C5 := Lib.hid (B5.below C4.out hle C4.out.size)
          have Sb5 := Lib.hid S5
          have Sa5 := Lib.hid (Sa4.out.besides Sb4.out.noBool B5 hne')
          have RA5 := Lib.hid (RA4.out.besides B5 hn3)
          have HSm := Lib.hid (fun u => same_nil cc vv dd (.slice a3 0 c3) (.slice a5 0 c5) N3.out n5 u)
          clear B5 S5 n5 C4 Sa4 Sb4 RA4 HW4 f0 f1 f2 f3 f4 f5 hn3
          obtain ⟨w6, hw6⟩ : ∃ x, x = w5.alloc (.cells #[.int .i64 cc, .int .i64 vv, .string dd, .slice a5 0 c5] 34) := ⟨_, rfl⟩
          have al6 : Below w5.heap.size w5 w6 := by rw [hw6]; exact (Below.refl _ _).alloc (Nat.le_refl _) _
          have RB6 : RepAt w6 w5.heap.size cc vv dd (.slice a5 0 c5) := by rw [hw6]; exact RepAt.new w5 cc vv dd (.slice a5 0 c5)
          have RA6 : RepAt w6 w3.heap.size cc vv dd (.slice a3 0 c3) := RA5.out.keep al6 RA5.out.lt
          have HW6 := Lib.hid hw6
          have C6 := Lib.hid (C5.out.trans (al6.mono C5.out.size))
          have Sa6 := Lib.hid (Sa5.out.on al6)
          have Sb6 := Lib.hid (Sb5.out.on al6)
          obtain ⟨⟨x0, x1, x2, x3⟩, _⟩ := RA6.cells
          obtain ⟨⟨y0, y1, y2, y3⟩, _⟩ := RB6.cells
          clear al6 hw6 RA5 RA6 RB6 C5 Sa5 Sb5
          go_upto_region 15 with fail
          rw [← HW6.out]
          go_wp2_with fail
          refine (HSm.out _).mono ?_
          rintro e w7 ⟨rfl, B7⟩
          have C7 := Lib.hid (C6.out.trans (B7.mono C6.out.size))
          have Sa7 := Lib.hid (Sa6.out.on B7)
          have Sb7 := Lib.hid (Sb6.out.on B7)
          clear B7 C6 Sa6 Sb6 x0 x1 x2 x3 y0 y1 y2 y3 HW6
          obtain ⟨Q, hQ⟩ : ∃ A, askA s' ⟨cl, sq, kd, id, mt, dt⟩ = A := ⟨_, rfl⟩
          have hll : Q.r.list.length ≤ 100 := by rw [← hQ]; exact askA_list HFA.out ⟨cl, sq, kd, id, mt, dt⟩
          have HAsk : Hid (∀ u, Sto layP u w.heap.size s' → Calls Try.prog 17 #[.pointer (some ⟨w.heap.size, 0, none⟩), .agg #[.int .i64 cl, .int .i64 sq, .int .i64 kd, .int .i64 id, .int .i64 mt, .string dt]] u (AskR Q.r.list Q.r.list.length Q.r.code Q.r.ver Q.r.data Q.err u)) :=
            fun u hu => sask_r w.heap.size s' (k + 1) cl sq kd id mt dt Q.r.code Q.r.ver Q.r.data Q.r.list Q.r.list.length Q.err (show _ = _ from hQ) rfl HSm0.out HFA.out u hu
          have HRsk : Hid (∀ u, Sto layR u bb s' → Calls Try.prog 18 #[.pointer (some ⟨bb, 0, none⟩), .agg #[.int .i64 cl, .int .i64 sq, .int .i64 kd, .int .i64 id, .int .i64 mt, .string dt]] u (AskR Q.r.list Q.r.list.length Q.r.code Q.r.ver Q.r.data Q.err u)) :=
            fun u hu => rask_r bb s' (k + 1) cl sq kd id mt dt Q.r.code Q.r.ver Q.r.data Q.r.list Q.r.list.length Q.err (show _ = _ from hQ) rfl HSm0.out HFA.out u hu
          have HFB : Hid (Fit s' (k + 1)) := HFA.out.mono (by omega)
          have HSame : Hid (∀ u, Sto layP u w.heap.size s' → Sto layR u bb s' → Calls Try.prog 19 #[.pointer (some ⟨w.heap.size, 0, none⟩), .pointer (some ⟨bb, 0, none⟩)] u fun e w' => e = .returned (.bool true) ∧ Below u.heap.size u w') :=
            fun u h1 h2 => sames_r w.heap.size bb s' (k + 1) u HFB.out (by omega) h1 h2
          clear hQ
          obtain ⟨⟨c2, r2, d2, ll⟩, x2⟩ := Q
          simp only at HAsk HRsk hll
          generalize hlm : ll.length = mm at HAsk HRsk
          have HLm := Lib.hid hlm
          have HLl := Lib.hid hll
          clear hlm hll
          obtain ⟨f0, f1, f2, f3, f4, f5⟩ := FX.out w7 C7.out
          go_wp2_with fail
          refine (HAsk.out _ Sa7.out).mono ?_
          rintro e u3 ⟨a3, c3, rfl, n3, B3⟩
          have Cw := Lib.hid (C7.out.trans (B3.mono C7.out.size))
          have Sa := Lib.hid (Sa7.out.on B3)
          have Sb := Lib.hid (Sb7.out.on B3)
          have N3 := Lib.hid n3
          clear B3 n3 f0 f1 f2 f3 f4 f5
          obtain ⟨u4, hu4⟩ : ∃ x, x = u3.alloc (.cells #[.int .i64 c2, .int .i64 r2, .string d2, .slice a3 mm c3] 34) := ⟨_, rfl⟩
          have al4 : Below u3.heap.size u3 u4 := by rw [hu4]; exact (Below.refl _ _).alloc (Nat.le_refl _) _
          have RA4 : Hid (RepAt u4 u3.heap.size c2 r2 d2 (.slice a3 mm c3)) := by rw [hu4]; exact RepAt.new u3 c2 r2 d2 (.slice a3 mm c3)
          have HU4 := Lib.hid hu4
          have C4 := Lib.hid (Cw.out.trans (al4.mono Cw.out.size))
          have Sa4 := Lib.hid (Sa.out.on al4)
          have Sb4 := Lib.hid (Sb.out.on al4)
          have N4 := Lib.hid ((N3.out.keep al4).mono al4.size)
          obtain ⟨f0, f1, f2, f3, f4, f5⟩ := FX.out u4 C4.out
          clear al4 hu4 Cw Sa Sb N3
          go_upto_region 18 with fail
          rw [← HU4.out]
          go_wp2_with fail
          refine (HRsk.out _ Sb4.out).mono ?_
          rintro e u5 ⟨a5, c5, rfl, n5, B5⟩
          have C5 := Lib.hid (C4.out.trans (B5.mono C4.out.size))
          have Sb5 := Lib.hid (Sb4.out.on B5)
          have Sa5 := Lib.hid (Sa4.out.on B5)
          have RA5 := Lib.hid (RA4.out.keep B5 RA4.out.lt)
          have N5 := Lib.hid ((N4.out.keep B5).mono B5.size)
          have M5 := Lib.hid n5
          clear B5 n5 C4 Sa4 Sb4 RA4 HU4 N4 f0 f1 f2 f3 f4 f5
          obtain ⟨u6, hu6⟩ : ∃ x, x = u5.alloc (.cells #[.int .i64 c2, .int .i64 r2, .string d2, .slice a5 mm c5] 34) := ⟨_, rfl⟩
          have al6 : Below u5.heap.size u5 u6 := by rw [hu6]; exact (Below.refl _ _).alloc (Nat.le_refl _) _
          have RB6 : RepAt u6 u5.heap.size c2 r2 d2 (.slice a5 mm c5) := by rw [hu6]; exact RepAt.new u5 c2 r2 d2 (.slice a5 mm c5)
          have RA6 : RepAt u6 u3.heap.size c2 r2 d2 (.slice a3 mm c3) := RA5.out.keep al6 RA5.out.lt
          have HU6 := Lib.hid hu6
          have C6 := Lib.hid (C5.out.trans (al6.mono C5.out.size))
          have Sa6 := Lib.hid (Sa5.out.on al6)
          have Sb6 := Lib.hid (Sb5.out.on al6)
          have N6 := (N5.out.keep al6).mono al6.size
          have M6 := (M5.out.keep al6).mono al6.size
          have HSm := Lib.hid (refsamereply_any c2 r2 c2 r2 d2 d2 (.slice a3 mm c3) (.slice a5 mm c5) ll ll _ u6 N6 M6 (Nat.le_refl _) (by have := HLl.out; omega) true (show _ = _ by simp))
          obtain ⟨⟨x0, x1, x2', x3⟩, _⟩ := RA6.cells
          obtain ⟨⟨y0, y1, y2, y3⟩, _⟩ := RB6.cells
          clear N6 M6 N5 M5 al6 hu6 RA5 RA6 RB6 C5 Sa5 Sb5
          go_upto_region 19 with fail
          rw [← HU6.out]
          go_wp2_with fail
          refine HSm.out.mono ?_
          rintro e w7 ⟨rfl, B7⟩
          have C7 := Lib.hid (C6.out.trans (B7.mono C6.out.size))
          have Sa7 := Lib.hid (Sa6.out.on B7)
          have Sb7 := Lib.hid (Sb6.out.on B7)
          clear B7 C6 Sa6 Sb6 x0 x1 x2' x3 y0 y1 y2 y3 HU6
          cases R2 with
          | true =>
            go_wp2_with fail
            refine (HSame.out _ Sa7.out Sb7.out).mono ?_
            rintro e w8 ⟨rfl, B8⟩
            have C8 := Lib.hid (C7.out.trans (B8.mono C7.out.size))
            have Sa8 := Lib.hid (Sa7.out.on B8)
            have Sb8 := Lib.hid (Sb7.out.on B8)
            clear B8 C7 Sa7 Sb7
            go_wp2
            go_roundw
            case rel =>
              first
                | exact ⟨k + 1, s', by omega, by go_num, HFB.out, Sa8.out, Sb8.out, C8.out⟩
                | ((repeat apply Exists.intro); exact ⟨⟨k + 1, s', by omega, by go_num, HFB.out, Sa8.out, Sb8.out, C8.out⟩, rfl⟩)
            case measure => simp [intOf]; omega
          | false =>
            go_wp2
            go_roundw
            case rel =>
              first
                | exact ⟨k + 1, s', by omega, by go_num, HFB.out, Sa7.out, Sb7.out, C7.out⟩
                | ((repeat apply Exists.intro); exact ⟨⟨k + 1, s', by omega, by go_num, HFB.out, Sa7.out, Sb7.out, C7.out⟩, rfl⟩)
            case measure => simp [intOf]; omega
        | false =>
          obtain rfl : R3 = true := by simp_all
          clear hput
          obtain ⟨f0, f1, f2, f3, f4, f5⟩ := FX.out wr HB.out
          go_wp2_with fail
          refine (HWr.out _).mono ?_
          rintro e wz ⟨rfl, Bz⟩
          have HBz := Lib.hid (HB.out.trans (Bz.mono HB.out.size))
          have HAz := Lib.hid (HA.out.on Bz)
          have HBsz := Lib.hid (HBs.out.on Bz)
          clear Bz f0 f1 f2 f3 f4 f5
          obtain ⟨f0, f1, f2, f3, f4, f5⟩ := FX.out wz HBz.out
          go_wp2_with fail
          refine (HPut.out _ HAz.out).mono ?_
          rintro e w3 ⟨a3, c3, rfl, n3, B3, S3⟩
          have Cw := Lib.hid (B3.below HBz.out (Nat.le_refl _) HBz.out.size)
          have Sa := Lib.hid S3
          have Sb := Lib.hid (HBsz.out.besides HAz.out.noBool B3 hne)
          have hl3 : bb < w3.heap.size := Sb.out.lt
          have N3 := Lib.hid n3
          clear B3 S3 n3 f0 f1 f2 f3 f4 f5
          obtain ⟨w4, hw4⟩ : ∃ x, x = w3.alloc (.cells #[.int .i64 cc, .int .i64 vv, .string dd, .slice a3 0 c3] 34) := ⟨_, rfl⟩
          have al4 : Below w3.heap.size w3 w4 := by rw [hw4]; exact (Below.refl _ _).alloc (Nat.le_refl _) _
          have RA4 : Hid (RepAt w4 w3.heap.size cc vv dd (.slice a3 0 c3)) := by rw [hw4]; exact RepAt.new w3 cc vv dd (.slice a3 0 c3)
          have HW4 := Lib.hid hw4
          have C4 := Lib.hid (Cw.out.trans (al4.mono Cw.out.size))
          have Sa4 := Lib.hid (Sa.out.on al4)
          have Sb4 := Lib.hid (Sb.out.on al4)
          obtain ⟨f0, f1, f2, f3, f4, f5⟩ := FX.out w4 C4.out
          have hn3 : w3.heap.size ≠ bb := by omega
          clear al4 hw4 Cw Sa Sb
          go_upto_region 14 with fail
          rw [← HW4.out]
          go_wp2_with fail
          refine (HRut.out _ Sb4.out).mono ?_
          rintro e w5 ⟨a5, c5, rfl, n5, B5, S5⟩
          have C5 := Lib.hid (B5.below C4.out hle C4.out.size)
          have Sb5 := Lib.hid S5
          have Sa5 := Lib.hid (Sa4.out.besides Sb4.out.noBool B5 hne')
          have RA5 := Lib.hid (RA4.out.besides B5 hn3)
          have HSm := Lib.hid (fun u => same_nil cc vv dd (.slice a3 0 c3) (.slice a5 0 c5) N3.out n5 u)
          clear B5 S5 n5 C4 Sa4 Sb4 RA4 HW4 f0 f1 f2 f3 f4 f5 hn3
          obtain ⟨w6, hw6⟩ : ∃ x, x = w5.alloc (.cells #[.int .i64 cc, .int .i64 vv, .string dd, .slice a5 0 c5] 34) := ⟨_, rfl⟩
          have al6 : Below w5.heap.size w5 w6 := by rw [hw6]; exact (Below.refl _ _).alloc (Nat.le_refl _) _
          have RB6 : RepAt w6 w5.heap.size cc vv dd (.slice a5 0 c5) := by rw [hw6]; exact RepAt.new w5 cc vv dd (.slice a5 0 c5)
          have RA6 : RepAt w6 w3.heap.size cc vv dd (.slice a3 0 c3) := RA5.out.keep al6 RA5.out.lt
          have HW6 := Lib.hid hw6
          have C6 := Lib.hid (C5.out.trans (al6.mono C5.out.size))
          have Sa6 := Lib.hid (Sa5.out.on al6)
          have Sb6 := Lib.hid (Sb5.out.on al6)
          obtain ⟨⟨x0, x1, x2, x3⟩, _⟩ := RA6.cells
          obtain ⟨⟨y0, y1, y2, y3⟩, _⟩ := RB6.cells
          clear al6 hw6 RA5 RA6 RB6 C5 Sa5 Sb5
          go_upto_region 15 with fail
          rw [← HW6.out]
          go_wp2_with fail
          refine (HSm.out _).mono ?_
          rintro e w7 ⟨rfl, B7⟩
          have C7 := Lib.hid (C6.out.trans (B7.mono C6.out.size))
          have Sa7 := Lib.hid (Sa6.out.on B7)
          have Sb7 := Lib.hid (Sb6.out.on B7)
          clear B7 C6 Sa6 Sb6 x0 x1 x2 x3 y0 y1 y2 y3 HW6
          obtain ⟨Q, hQ⟩ : ∃ A, askA s' ⟨cl, sq, kd, id, mt, dt⟩ = A := ⟨_, rfl⟩
          have hll : Q.r.list.length ≤ 100 := by rw [← hQ]; exact askA_list HFA.out ⟨cl, sq, kd, id, mt, dt⟩
          have HAsk : Hid (∀ u, Sto layP u w.heap.size s' → Calls Try.prog 17 #[.pointer (some ⟨w.heap.size, 0, none⟩), .agg #[.int .i64 cl, .int .i64 sq, .int .i64 kd, .int .i64 id, .int .i64 mt, .string dt]] u (AskR Q.r.list Q.r.list.length Q.r.code Q.r.ver Q.r.data Q.err u)) :=
            fun u hu => sask_r w.heap.size s' (k + 1) cl sq kd id mt dt Q.r.code Q.r.ver Q.r.data Q.r.list Q.r.list.length Q.err (show _ = _ from hQ) rfl HSm0.out HFA.out u hu
          have HRsk : Hid (∀ u, Sto layR u bb s' → Calls Try.prog 18 #[.pointer (some ⟨bb, 0, none⟩), .agg #[.int .i64 cl, .int .i64 sq, .int .i64 kd, .int .i64 id, .int .i64 mt, .string dt]] u (AskR Q.r.list Q.r.list.length Q.r.code Q.r.ver Q.r.data Q.err u)) :=
            fun u hu => rask_r bb s' (k + 1) cl sq kd id mt dt Q.r.code Q.r.ver Q.r.data Q.r.list Q.r.list.length Q.err (show _ = _ from hQ) rfl HSm0.out HFA.out u hu
          have HFB : Hid (Fit s' (k + 1)) := HFA.out.mono (by omega)
          have HSame : Hid (∀ u, Sto layP u w.heap.size s' → Sto layR u bb s' → Calls Try.prog 19 #[.pointer (some ⟨w.heap.size, 0, none⟩), .pointer (some ⟨bb, 0, none⟩)] u fun e w' => e = .returned (.bool true) ∧ Below u.heap.size u w') :=
            fun u h1 h2 => sames_r w.heap.size bb s' (k + 1) u HFB.out (by omega) h1 h2
          clear hQ
          obtain ⟨⟨c2, r2, d2, ll⟩, x2⟩ := Q
          simp only at HAsk HRsk hll
          generalize hlm : ll.length = mm at HAsk HRsk
          have HLm := Lib.hid hlm
          have HLl := Lib.hid hll
          clear hlm hll
          obtain ⟨f0, f1, f2, f3, f4, f5⟩ := FX.out w7 C7.out
          go_wp2_with fail
          refine (HAsk.out _ Sa7.out).mono ?_
          rintro e u3 ⟨a3, c3, rfl, n3, B3⟩
          have Cw := Lib.hid (C7.out.trans (B3.mono C7.out.size))
          have Sa := Lib.hid (Sa7.out.on B3)
          have Sb := Lib.hid (Sb7.out.on B3)
          have N3 := Lib.hid n3
          clear B3 n3 f0 f1 f2 f3 f4 f5
          obtain ⟨u4, hu4⟩ : ∃ x, x = u3.alloc (.cells #[.int .i64 c2, .int .i64 r2, .string d2, .slice a3 mm c3] 34) := ⟨_, rfl⟩
          have al4 : Below u3.heap.size u3 u4 := by rw [hu4]; exact (Below.refl _ _).alloc (Nat.le_refl _) _
          have RA4 : Hid (RepAt u4 u3.heap.size c2 r2 d2 (.slice a3 mm c3)) := by rw [hu4]; exact RepAt.new u3 c2 r2 d2 (.slice a3 mm c3)
          have HU4 := Lib.hid hu4
          have C4 := Lib.hid (Cw.out.trans (al4.mono Cw.out.size))
          have Sa4 := Lib.hid (Sa.out.on al4)
          have Sb4 := Lib.hid (Sb.out.on al4)
          have N4 := Lib.hid ((N3.out.keep al4).mono al4.size)
          obtain ⟨f0, f1, f2, f3, f4, f5⟩ := FX.out u4 C4.out
          clear al4 hu4 Cw Sa Sb N3
          go_upto_region 18 with fail
          rw [← HU4.out]
          go_wp2_with fail
          refine (HRsk.out _ Sb4.out).mono ?_
          rintro e u5 ⟨a5, c5, rfl, n5, B5⟩
          have C5 := Lib.hid (C4.out.trans (B5.mono C4.out.size))
          have Sb5 := Lib.hid (Sb4.out.on B5)
          have Sa5 := Lib.hid (Sa4.out.on B5)
          have RA5 := Lib.hid (RA4.out.keep B5 RA4.out.lt)
          have N5 := Lib.hid ((N4.out.keep B5).mono B5.size)
          have M5 := Lib.hid n5
          clear B5 n5 C4 Sa4 Sb4 RA4 HU4 N4 f0 f1 f2 f3 f4 f5
          obtain ⟨u6, hu6⟩ : ∃ x, x = u5.alloc (.cells #[.int .i64 c2, .int .i64 r2, .string d2, .slice a5 mm c5] 34) := ⟨_, rfl⟩
          have al6 : Below u5.heap.size u5 u6 := by rw [hu6]; exact (Below.refl _ _).alloc (Nat.le_refl _) _
          have RB6 : RepAt u6 u5.heap.size c2 r2 d2 (.slice a5 mm c5) := by rw [hu6]; exact RepAt.new u5 c2 r2 d2 (.slice a5 mm c5)
          have RA6 : RepAt u6 u3.heap.size c2 r2 d2 (.slice a3 mm c3) := RA5.out.keep al6 RA5.out.lt
          have HU6 := Lib.hid hu6
          have C6 := Lib.hid (C5.out.trans (al6.mono C5.out.size))
          have Sa6 := Lib.hid (Sa5.out.on al6)
          have Sb6 := Lib.hid (Sb5.out.on al6)
          have N6 := (N5.out.keep al6).mono al6.size
          have M6 := (M5.out.keep al6).mono al6.size
          have HSm := Lib.hid (refsamereply_any c2 r2 c2 r2 d2 d2 (.slice a3 mm c3) (.slice a5 mm c5) ll ll _ u6 N6 M6 (Nat.le_refl _) (by have := HLl.out; omega) true (show _ = _ by simp))
          obtain ⟨⟨x0, x1, x2', x3⟩, _⟩ := RA6.cells
          obtain ⟨⟨y0, y1, y2, y3⟩, _⟩ := RB6.cells
          clear N6 M6 N5 M5 al6 hu6 RA5 RA6 RB6 C5 Sa5 Sb5
          go_upto_region 19 with fail
          rw [← HU6.out]
          go_wp2_with fail
          refine HSm.out.mono ?_
          rintro e w7 ⟨rfl, B7⟩
          have C7 := Lib.hid (C6.out.trans (B7.mono C6.out.size))
          have Sa7 := Lib.hid (Sa6.out.on B7)
          have Sb7 := Lib.hid (Sb6.out.on B7)
          clear B7 C6 Sa6 Sb6 x0 x1 x2' x3 y0 y1 y2 y3 HU6
          cases R2 with
          | true =>
            go_wp2_with fail
            refine (HSame.out _ Sa7.out Sb7.out).mono ?_
            rintro e w8 ⟨rfl, B8⟩
            have C8 := Lib.hid (C7.out.trans (B8.mono C7.out.size))
            have Sa8 := Lib.hid (Sa7.out.on B8)
            have Sb8 := Lib.hid (Sb7.out.on B8)
            clear B8 C7 Sa7 Sb7
            go_wp2
            go_roundw
            case rel =>
              first
                | exact ⟨k + 1, s', by omega, by go_num, HFB.out, Sa8.out, Sb8.out, C8.out⟩
                | ((repeat apply Exists.intro); exact ⟨⟨k + 1, s', by omega, by go_num, HFB.out, Sa8.out, Sb8.out, C8.out⟩, rfl⟩)
            case measure => simp [intOf]; omega
          | false =>
            go_wp2
            go_roundw
            case rel =>
              first
                | exact ⟨k + 1, s', by omega, by go_num, HFB.out, Sa7.out, Sb7.out, C7.out⟩
                | ((repeat apply Exists.intro); exact ⟨⟨k + 1, s', by omega, by go_num, HFB.out, Sa7.out, Sb7.out, C7.out⟩, rfl⟩)
            case measure => simp [intOf]; omega
      · obtain rfl : R1 = false := by cases R1 <;> simp_all
        obtain rfl : R3 = false := by cases R3 <;> simp_all
        clear hput
        obtain ⟨f0, f1, f2, f3, f4, f5⟩ := FX.out wr HB.out
        go_wp2_with fail
        refine (HWr.out _).mono ?_
        rintro e wz ⟨rfl, Bz⟩
        have HBz := Lib.hid (HB.out.trans (Bz.mono HB.out.size))
        have HAz := Lib.hid (HA.out.on Bz)
        have HBsz := Lib.hid (HBs.out.on Bz)
        clear Bz f0 f1 f2 f3 f4 f5
        obtain ⟨Q, hQ⟩ : ∃ A, askA s ⟨cl, sq, kd, id, mt, dt⟩ = A := ⟨_, rfl⟩
        have hll : Q.r.list.length ≤ 100 := by rw [← hQ]; exact askA_list HFt.out ⟨cl, sq, kd, id, mt, dt⟩
        have HAsk : Hid (∀ u, Sto layP u w.heap.size s → Calls Try.prog 17 #[.pointer (some ⟨w.heap.size, 0, none⟩), .agg #[.int .i64 cl, .int .i64 sq, .int .i64 kd, .int .i64 id, .int .i64 mt, .string dt]] u (AskR Q.r.list Q.r.list.length Q.r.code Q.r.ver Q.r.data Q.err u)) :=
          fun u hu => sask_r w.heap.size s (k) cl sq kd id mt dt Q.r.code Q.r.ver Q.r.data Q.r.list Q.r.list.length Q.err (show _ = _ from hQ) rfl HSm0.out HFt.out u hu
        have HRsk : Hid (∀ u, Sto layR u bb s → Calls Try.prog 18 #[.pointer (some ⟨bb, 0, none⟩), .agg #[.int .i64 cl, .int .i64 sq, .int .i64 kd, .int .i64 id, .int .i64 mt, .string dt]] u (AskR Q.r.list Q.r.list.length Q.r.code Q.r.ver Q.r.data Q.err u)) :=
          fun u hu => rask_r bb s (k) cl sq kd id mt dt Q.r.code Q.r.ver Q.r.data Q.r.list Q.r.list.length Q.err (show _ = _ from hQ) rfl HSm0.out HFt.out u hu
        have HFB : Hid (Fit s (k + 1)) := HFt.out.mono (by omega)
        have HSame : Hid (∀ u, Sto layP u w.heap.size s → Sto layR u bb s → Calls Try.prog 19 #[.pointer (some ⟨w.heap.size, 0, none⟩), .pointer (some ⟨bb, 0, none⟩)] u fun e w' => e = .returned (.bool true) ∧ Below u.heap.size u w') :=
          fun u h1 h2 => sames_r w.heap.size bb s (k + 1) u HFB.out (by omega) h1 h2
        clear hQ
        obtain ⟨⟨c2, r2, d2, ll⟩, x2⟩ := Q
        simp only at HAsk HRsk hll
        generalize hlm : ll.length = mm at HAsk HRsk
        have HLm := Lib.hid hlm
        have HLl := Lib.hid hll
        clear hlm hll
        obtain ⟨f0, f1, f2, f3, f4, f5⟩ := FX.out wz HBz.out
        go_wp2_with fail
        refine (HAsk.out _ HAz.out).mono ?_
        rintro e u3 ⟨a3, c3, rfl, n3, B3⟩
        have Cw := Lib.hid (HBz.out.trans (B3.mono HBz.out.size))
        have Sa := Lib.hid (HAz.out.on B3)
        have Sb := Lib.hid (HBsz.out.on B3)
        have N3 := Lib.hid n3
        clear B3 n3 f0 f1 f2 f3 f4 f5
        obtain ⟨u4, hu4⟩ : ∃ x, x = u3.alloc (.cells #[.int .i64 c2, .int .i64 r2, .string d2, .slice a3 mm c3] 34) := ⟨_, rfl⟩
        have al4 : Below u3.heap.size u3 u4 := by rw [hu4]; exact (Below.refl _ _).alloc (Nat.le_refl _) _
        have RA4 : Hid (RepAt u4 u3.heap.size c2 r2 d2 (.slice a3 mm c3)) := by rw [hu4]; exact RepAt.new u3 c2 r2 d2 (.slice a3 mm c3)
        have HU4 := Lib.hid hu4
        have C4 := Lib.hid (Cw.out.trans (al4.mono Cw.out.size))
        have Sa4 := Lib.hid (Sa.out.on al4)
        have Sb4 := Lib.hid (Sb.out.on al4)
        have N4 := Lib.hid ((N3.out.keep al4).mono al4.size)
        obtain ⟨f0, f1, f2, f3, f4, f5⟩ := FX.out u4 C4.out
        clear al4 hu4 Cw Sa Sb N3
        go_upto_region 18 with fail
        rw [← HU4.out]
        go_wp2_with fail
        refine (HRsk.out _ Sb4.out).mono ?_
        rintro e u5 ⟨a5, c5, rfl, n5, B5⟩
        have C5 := Lib.hid (C4.out.trans (B5.mono C4.out.size))
        have Sb5 := Lib.hid (Sb4.out.on B5)
        have Sa5 := Lib.hid (Sa4.out.on B5)
        have RA5 := Lib.hid (RA4.out.keep B5 RA4.out.lt)
        have N5 := Lib.hid ((N4.out.keep B5).mono B5.size)
        have M5 := Lib.hid n5
        clear B5 n5 C4 Sa4 Sb4 RA4 HU4 N4 f0 f1 f2 f3 f4 f5
        obtain ⟨u6, hu6⟩ : ∃ x, x = u5.alloc (.cells #[.int .i64 c2, .int .i64 r2, .string d2, .slice a5 mm c5] 34) := ⟨_, rfl⟩
        have al6 : Below u5.heap.size u5 u6 := by rw [hu6]; exact (Below.refl _ _).alloc (Nat.le_refl _) _
        have RB6 : RepAt u6 u5.heap.size c2 r2 d2 (.slice a5 mm c5) := by rw [hu6]; exact RepAt.new u5 c2 r2 d2 (.slice a5 mm c5)
        have RA6 : RepAt u6 u3.heap.size c2 r2 d2 (.slice a3 mm c3) := RA5.out.keep al6 RA5.out.lt
        have HU6 := Lib.hid hu6
        have C6 := Lib.hid (C5.out.trans (al6.mono C5.out.size))
        have Sa6 := Lib.hid (Sa5.out.on al6)
        have Sb6 := Lib.hid (Sb5.out.on al6)
        have N6 := (N5.out.keep al6).mono al6.size
        have M6 := (M5.out.keep al6).mono al6.size
        have HSm := Lib.hid (refsamereply_any c2 r2 c2 r2 d2 d2 (.slice a3 mm c3) (.slice a5 mm c5) ll ll _ u6 N6 M6 (Nat.le_refl _) (by have := HLl.out; omega) true (show _ = _ by simp))
        obtain ⟨⟨x0, x1, x2', x3⟩, _⟩ := RA6.cells
        obtain ⟨⟨y0, y1, y2, y3⟩, _⟩ := RB6.cells
        clear N6 M6 N5 M5 al6 hu6 RA5 RA6 RB6 C5 Sa5 Sb5
        go_upto_region 19 with fail
        rw [← HU6.out]
        go_wp2_with fail
        refine HSm.out.mono ?_
        rintro e w7 ⟨rfl, B7⟩
        have C7 := Lib.hid (C6.out.trans (B7.mono C6.out.size))
        have Sa7 := Lib.hid (Sa6.out.on B7)
        have Sb7 := Lib.hid (Sb6.out.on B7)
        clear B7 C6 Sa6 Sb6 x0 x1 x2' x3 y0 y1 y2 y3 HU6
        cases R2 with
        | true =>
          go_wp2_with fail
          refine (HSame.out _ Sa7.out Sb7.out).mono ?_
          rintro e w8 ⟨rfl, B8⟩
          have C8 := Lib.hid (C7.out.trans (B8.mono C7.out.size))
          have Sa8 := Lib.hid (Sa7.out.on B8)
          have Sb8 := Lib.hid (Sb7.out.on B8)
          clear B8 C7 Sa7 Sb7
          go_wp2
          go_roundw
          case rel =>
            first
              | exact ⟨k + 1, s, by omega, by go_num, HFB.out, Sa8.out, Sb8.out, C8.out⟩
              | ((repeat apply Exists.intro); exact ⟨⟨k + 1, s, by omega, by go_num, HFB.out, Sa8.out, Sb8.out, C8.out⟩, rfl⟩)
          case measure => simp [intOf]; omega
        | false =>
          go_wp2
          go_roundw
          case rel =>
            first
              | exact ⟨k + 1, s, by omega, by go_num, HFB.out, Sa7.out, Sb7.out, C7.out⟩
              | ((repeat apply Exists.intro); exact ⟨⟨k + 1, s, by omega, by go_num, HFB.out, Sa7.out, Sb7.out, C7.out⟩, rfl⟩)
          case measure => simp [intOf]; omega
    · obtain rfl : k = n := by omega
      have HSame : Hid (∀ u, Sto layP u w.heap.size s → Sto layR u bb s → Calls Try.prog 19 #[.pointer (some ⟨w.heap.size, 0, none⟩), .pointer (some ⟨bb, 0, none⟩)] u fun e w' => e = .returned (.bool true) ∧ Below u.heap.size u w') :=
        fun u h1 h2 => sames_r w.heap.size bb s k u HFt.out (by omega) h1 h2
      go_wp2_with fail
      refine (HT.out _).mono ?_
      rintro e w3 ⟨rfl, B3⟩
      have C3 := Lib.hid (HB.out.trans (B3.mono HB.out.size))
      have Sa := Lib.hid (HA.out.on B3)
      have Sb := Lib.hid (HBs.out.on B3)
      clear B3
      go_wp2_with fail
      refine (HSame.out _ Sa.out Sb.out).mono ?_
      rintro e w4 ⟨rfl, B4⟩
      have C4 := Lib.hid (C3.out.trans (B4.mono C3.out.size))
      clear B4
      go_wp2
      go_returns
      exact ⟨rfl, C4.out⟩

theorem walk (q : Int) (v : Value) (L : List ReqV) (w : World) (_ : (Lit.int .i64 q).wf = true) (hV : Reqs w w.heap.size v L) :
    Calls Try.prog 3 #[.int .i64 q, v] w fun e w' => e = .returned (.bool true) ∧ Below w.heap.size w w' := by
  by_cases hq : 1 ≤ q ∧ q ≤ 100
  · have hV' := hV
    obtain ⟨ao, cap, rfl, _⟩ := hV
    obtain ⟨hat, _, hml, hms⟩ := reqs_at hV'
    have HF : ∀ R, R = decide (fewR L) → Hid (∀ u, Below w.heap.size w u → Calls Try.prog 12 #[.slice ao L.length cap] u fun e w' => e = .returned (.bool R) ∧ u = w') :=
      fun R hR u hu => few5_r ao _ cap L u rfl (reqs_on hV' hu) R hR
    by_cases hf : fewR L
    · exact run ao _ cap L q w hq.1 hq.2 rfl hf.2 hf.1 hat (HF true (decide_eq_true hf).symm)
    · exact many _ q w hq.1 hq.2 (HF false (decide_eq_false hf).symm)
  · exact bad v q w (by omega)

set_option maxRecDepth 100000 in
theorem lifted (os : Os) (started : os.Started) (H : Type) (enc : TypeId × Value → H) :
    ReturnsInHanded {} Try.checked os 3 .any (Rows.storePlaysSpec.pre6 enc Try.prog Try.f3 Rows.storePlaysRow.domain false) (Rows.storePlaysSpec.post enc Try.prog Try.f3 false true false false) := by
  refine returnsInHanded_of_change (C := Try.checked) own started (by kernel_rfl) Try.func3
    (ChangeSpec.witness6 (enc := enc) (C := Try.checked) false ⟨#[], #[.int .i64 0, .slice none 0 0], []⟩ 8 (by kernel_rfl) (by kernel_rfl) (by kernel_rfl) (by kernel_rfl)) ?_
  intro W base args ds gs before hval0 hW hcnd _
  have hval : ∀ (j : Nat) t v, Try.f3.params[j]? = some t → args[j]? = some v → Value.okWide Try.prog W .any base t v := hval0
  have hW' := hW
  obtain ⟨p, q, hA0, hV, rfl, hfz, hnd⟩ := hW
  have hA : DataW.TrodAll enc Try.prog W 0 (fun _ => true) true Try.f3.params.toList args.toList ds p := hA0
  rw [Try.params3] at hA hval
  obtain ⟨v0, vs0, d0, ds0, p0, q0, hargs, rfl, rfl, h0, r0⟩ := trodAll_cons hA
  obtain ⟨v1, vs1, d1, ds1, p1, q1, rfl, rfl, rfl, h1, r1⟩ := trodAll_cons r0
  obtain ⟨rfl, rfl, rfl⟩ := trodAll_nil r1
  obtain rfl : args = #[v0, v1] := by cases args; simp_all
  obtain ⟨rfl, rfl⟩ := trodVars_none hV
  obtain ⟨a0, rfl, rfl, rfl, w0⟩ := open_int Try.underlying3 (hval 0 3 v0 rfl rfl) h0
  obtain ⟨a1, len1, cap1, rfl⟩ := okWide_slice Try.underlying22 (hval 1 22 v1 rfl rfl)
  have k1 := h1
  have lt1 : ∀ x ∈ p1, x.block < W.heap.size := by obtain ⟨m, hm⟩ := k1; exact DataW.trod_lt m _ _ _ hm
  obtain ⟨l1, w1⟩ := reqs_open h1
  clear hA0 hval0
  refine (walk a0 (.slice a1 len1 cap1) l1 W w0 w1).mono fun e W' ⟨he, bel⟩ => ?_
  subst he
  exact ⟨_, rfl, _, _, _, [], _, [], hW', trodAll_mk1 (shut_bool Try.underlying4 _), (trodAll_cons_mk (shut_int Try.underlying3 w0) (trodAll_cons_mk (Below.trod laidOut (by kernel_rfl) (of_decide_eq_true (by kernel_rfl)) k1 bel lt1) trodAll_mk0)), rfl, bel.frame _, fun h => by cases h⟩

theorem over : Rows.storePlaysRow.holds Try.pinned (OpenSpec.ofChange Rows.storePlaysSpec) :=
  OpenClaim.holds_of_wide 3 Try.f3 rfl rfl rfl rfl rfl rfl rfl ⟨rfl, rfl, rfl, rfl, rfl⟩ rfl rfl rfl rfl rfl (by kernel_rfl) Try.func3 (by kernel_rfl)
    (of_decide_eq_true (by kernel_rfl)) (by unfold Func.isWrapper; first | (rw [if_pos (by decide +kernel)]; kernel_rfl) | (rw [if_neg (by decide +kernel)]; exact ⟨rfl, rfl⟩))
    (fun os started H enc _ => lifted os started H enc)
end Go.Proofs.Yticokpaegadbbaa.StorePlays

namespace Go.Proofs.Yticokpaegadbbaa
theorem storePlays_holds : Rows.StorePlaysSaid := StorePlays.over
#print axioms storePlays_holds
end Go.Proofs.Yticokpaegadbbaa
