/-
  PROVED: casebooklaw18.LineOwn answers true and leaves its arguments as they were, for any requests and any request: the row's own reading and nothing else is assumed.
-/
import Derived.Test.YtkbjnhonopgffaaLnU
import Derived.Test.YtkbjnhonopgffaaStoreL
import Derived.Test.YtkbjnhonopgffaaDiskV
namespace Go.Proofs.Ytkbjnhonopgffaa.LineOwn
open Go.ChangeShapes Go.WideShapes Go.ChangeAt Go.RowKit

/-- How LNew ends. -/
def NewX (n : Nat) (w : World) (e : Ending) (w' : World) : Prop := ∃ g S, e = .returned (.tuple #[.pointer (some ⟨g, 0, none⟩), .int .i64 0]) ∧ Hid (GLo n w g 6 [] 0 S w')

set_option maxRecDepth 100000 in
set_option maxHeartbeats 8000000 in
theorem run (ao : Option Addr) (n cap : Nat) (L0 : List ReqV) (qc qs qk qi qm : Int) (qd : ByteArray) (w : World) (hn : L0.length = n) (hs : ∀ q ∈ L0, q.data.size ≤ maxLen) (HL : Hid (ReqsAt w ao L0)) (hqd : qd.size ≤ maxLen) :
    Calls Try.prog 7 #[.slice ao n cap, .agg #[.int .i64 qc, .int .i64 qs, .int .i64 qk, .int .i64 qi, .int .i64 qm, .string qd]] w fun e w' => e = .returned (.bool true) ∧ Below w.heap.size w w' := by
  obtain ⟨w0, hw0⟩ : ∃ w0, w0 = w.alloc (.cells #[.int .i64 qc, .int .i64 qs, .int .i64 qk, .int .i64 qi, .int .i64 qm, .string qd] 29) := ⟨_, rfl⟩
  have HW0 := Lib.hid hw0
  have hz0 : w0.heap.size = w.heap.size + 1 := by rw [hw0]; simp
  have HZ0 := Lib.hid hz0
  have hR0 : ReqB w0 w.heap.size qc qs qk qi qm qd := by rw [hw0]; exact ReqB.fresh w qc qs qk qi qm qd 29
  have hB0 : Below w.heap.size w w0 := by rw [hw0]; exact (Below.refl _ w).alloc (Nat.le_refl _) _
  have HU : Hid (∀ u, Below (w.heap.size + 1) w0 u → Below w.heap.size w u ∧ ReqB u w.heap.size qc qs qk qi qm qd) := fun u hu => ⟨hB0.trans (hu.mono (by omega)), hR0.keep hu (by omega)⟩
  have H1 : Hid (Calls Try.prog 11 #[.int .i64 6] w0 (NewX (w.heap.size + 1) w0)) := (glo_new 6 (by decide) (by decide) (Below.refl _ w0) (by omega)).mono fun _ _ ⟨g, S, he, h⟩ => ⟨g, S, he, h.out.1⟩
  have HT := Lib.hid (fun u => told18_any u)
  have HN := Lib.hid hn
  have HS := Lib.hid hs
  unfold maxLen at hqd
  clear hn hs hw0 hz0 hR0 hB0
  go_enter Try.func7, Try.ntmps7
  go_wp2_with fail
  rw [← HW0.out]
  refine H1.out.mono ?_
  rintro e w1 ⟨g, S0, rfl, G0⟩
  obtain ⟨f0, f1, f2, f3, f4, f5⟩ := (HU.out w1 G0.out.bel).2.cells
  by_cases h30 : 30 < n
  · go_wp2_with fail
    refine (HT.out _).mono ?_
    rintro e w2 ⟨rfl, B2⟩
    have C2 := Lib.hid (HU.out _ (G0.out.on B2).bel).1
    clear B2
    go_wp2
    go_returns
    exact ⟨rfl, C2.out⟩
  have h31 : n ≤ 30 := by omega
  clear h30
  by_cases h100 : 100 < qd.size
  · go_wp2_with fail
    refine (HT.out _).mono ?_
    rintro e w2 ⟨rfl, B2⟩
    have C2 := Lib.hid (HU.out _ (G0.out.on B2).bel).1
    clear B2
    go_wp2
    go_returns
    exact ⟨rfl, C2.out⟩
  have h101 : qd.size ≤ 100 := by omega
  clear h100
  go_wp2
  clear f0 f1 f2 f3 f4 f5
  go_loopw [7] (fun vi wr => ∃ (k : Nat) (L : List ReqV) (S : Nat → Prop), k ≤ n ∧ vi = .int .i64 k ∧ L.length ≤ k ∧ Hid (GLo (w.heap.size + 1) w0 g 6 L 0 S wr)) (fun vi _ => n - (intOf vi).toNat)
  case atStart => exact ⟨0, [], S0, by omega, rfl, Nat.le_refl _, G0⟩
  case round =>
    obtain ⟨k, L, S, hk, rfl, hLk, HG⟩ := hrel
    clear G0 H1
    by_cases hlt : k < n
    · have hkL : k < L0.length := by rw [HN.out]; exact hlt
      obtain ⟨b, off, rfl, hb, hc⟩ := HL.out k hkL
      have FX := Lib.hid hc
      have hsz := HS.out _ (List.getElem_mem hkL)
      clear hc
      generalize L0[k] = q at FX hsz
      obtain ⟨L', p, x, hV⟩ : ∃ L' p x, lputV L q = (L', p, x) := ⟨_, _, _, rfl⟩
      have hle := lputV_len L q
      rw [hV] at hle
      obtain ⟨hl1, hl2⟩ := hle
      simp only at hl1 hl2
      have i0 : (0 : Int) ≤ (k : Int) := by omega
      have i1 : (k : Int) < (n : Int) := by omega
      have HPut : Hid (∀ u, GLo (w.heap.size + 1) w0 g 6 L 0 S u → Calls Try.prog 13 #[.pointer (some ⟨g, 0, none⟩), .agg #[.int .i64 q.client, .int .i64 q.seq, .int .i64 q.kind, .int .i64 q.id, .int .i64 q.mtch, .string q.data]] u (PutLR (w.heap.size + 1) w0 g 6 L' p x 0 S u)) :=
        fun u hu => hu.put (by omega) q.client q.seq q.kind q.id q.mtch q.data hsz L' p x hV
      obtain ⟨f0, f1, f2, f3, f4, f5⟩ := FX.out wr (HU.out _ HG.out.bel).1
      obtain ⟨cl, sq, kd, id, mt, dt⟩ := q
      simp only at HPut hsz f0 f1 f2 f3 f4 f5
      unfold maxLen at hsz
      clear hV hkL
      by_cases h200 : 100 < dt.size
      · go_wp2_with fail
        refine (HT.out _).mono ?_
        rintro e w2 ⟨rfl, B2⟩
        have C2 := Lib.hid (HU.out _ (HG.out.on B2).bel).1
        clear B2
        go_wp2
        go_returns
        exact ⟨rfl, C2.out⟩
      have h201 : dt.size ≤ 100 := by omega
      clear h200
      go_wp2_with fail
      refine (HPut.out _ HG.out).mono ?_
      rintro e w2 ⟨rfl, S2, T2⟩
      have G2 := Lib.hid T2.lo
      clear T2
      go_wp2
      go_roundw
      case rel => exact ⟨k + 1, L', S2, by omega, by go_num, by omega, G2⟩
      case measure => simp [intOf]; omega
    · obtain rfl : k = n := by omega
      obtain ⟨N, hNL⟩ : ∃ N, N = L.length := ⟨_, rfl⟩
      obtain ⟨sv, hsv⟩ : ∃ s, s = stoOf 6 (L.take N) := ⟨_, rfl⟩
      have hok := HG.out.ok
      have htk : L.take N = L := by rw [hNL, List.take_length]
      have hpl : sv.places = N := by rw [hsv, htk, hNL]; exact (stoOf_seq 6 L hok.1).2
      have hfit : Fit sv N := by rw [hsv, htk, hNL]; exact stoOf_fit (by decide) (by decide) L
      have hN30 : N ≤ 30 := by omega
      have HLen : Hid (∀ c S u, GLo (w.heap.size + 1) w0 g 6 L c S u → Calls Try.prog 14 #[.pointer (some ⟨g, 0, none⟩)] u fun e w' => e = .returned (.int .i64 N) ∧ u = w') := fun c S u hu => by rw [hNL]; exact hu.len
      have HCm : Hid (Calls Try.prog 16 #[.pointer (some ⟨g, 0, none⟩), .int .i64 (N : Int)] wr (ComR (w.heap.size + 1) w0 g 6 L N S wr)) := HG.out.comYes (by omega) N (by omega) (by omega)
      have HSt : Hid (∀ S u, GLo (w.heap.size + 1) w0 g 6 L N S u → Calls Try.prog 18 #[.pointer (some ⟨g, 0, none⟩)] u fun e w' => e = .returned (.pointer (some ⟨u.heap.size, 0, none⟩)) ∧ Sto layP w' u.heap.size sv ∧ Below u.heap.size u w') := fun S u hu => by rw [hsv]; exact hu.store (by omega)
      have HLn : Hid (∀ b u, Sto layP u b sv → Calls Try.prog 19 #[.pointer (some ⟨b, 0, none⟩)] u fun e w' => e = .returned (.int .i64 N) ∧ u = w') := fun b u hu => by
        have h := slen_r b sv u hu
        rwa [hpl] at h
      obtain ⟨SS, hSS⟩ : ∃ SS, SS = stoS sv := ⟨_, rfl⟩
      have HBy : Hid (∀ b u, Sto layP u b sv → Calls Try.prog 29 #[.pointer (some ⟨b, 0, none⟩)] u (BytesStr SS u)) := fun b u hu => by rw [hSS]; exact sbytes_s b sv N u hu hfit (by omega)
      obtain ⟨A, hA⟩ : ∃ A, putA sv ⟨qc, qs, qk, qi, qm, qd⟩ = A := ⟨_, rfl⟩
      have HPt : Hid (∀ b u, Sto layP u b sv → Calls Try.prog 30 #[.pointer (some ⟨b, 0, none⟩), .agg #[.int .i64 qc, .int .i64 qs, .int .i64 qk, .int .i64 qi, .int .i64 qm, .string qd]] u (PutR layP b A.s A.code A.ver A.data A.err u)) := fun b u hu => sput_r b sv A.s N qc qs qk qi qm qd A.code A.ver A.data A.err (show _ = _ from hA) (by unfold maxLen; omega) hfit (by omega) u hu
      clear hA hSS hfit hpl htk hok hsv hNL HL HS HN
      go_wp2_with fail
      refine (HLen.out _ _ _ HG.out).mono ?_
      rintro e w2 ⟨rfl, rfl⟩
      go_wp2_with fail
      refine HCm.out.mono ?_
      rintro e w2 ⟨rfl, S2, T2⟩
      have G2 := Lib.hid T2.lo
      clear T2 HG HCm
      go_wp2_with fail
      refine (HSt.out _ _ G2.out).mono ?_
      obtain ⟨b1, hb1⟩ : ∃ b, b = w2.heap.size := ⟨_, rfl⟩
      rw [← hb1]
      rintro e w3 ⟨rfl, s3, B3⟩
      have HS2 : Hid (∀ x, S2 x → ¬ x = b1) := fun x hx e => by have := (G2.out.all hx).2.1; omega
      have HB1 : Hid (w.heap.size + 1 ≤ b1) := by
        have h1 := G2.out.size
        rw [hb1]; exact h1
      have G3 := Lib.hid (G2.out.on (by rw [← hb1]; exact B3))
      have S3 := Lib.hid s3
      clear hb1 s3 B3 G2
      go_wp2_with fail
      refine (HBy.out _ _ S3.out).mono ?_
      rintro e w4 ⟨a4, n4, c4, rfl, hk4, B4⟩
      have G4 := Lib.hid (G3.out.on B4)
      have S4 := Lib.hid (S3.out.on B4)
      have hkk := hk4 _ (Below.refl _ _)
      obtain ⟨f0, f1, f2, f3, f4, f5⟩ := (HU.out w4 G4.out.bel).2.cells
      clear B4 hk4 G3 S3
      go_wp2_with fail
      refine (HPt.out _ _ S4.out).mono ?_
      rintro e w5 ⟨a5, c5, rfl, _, B5, _⟩
      have G5 := Lib.hid (G4.out.keep B5.only HS2.out (fun x hx _ => by subst hx; exact ⟨S4.out.noBool, HB1.out⟩))
      clear B5 hkk f0 f1 f2 f3 f4 f5 G4 S4 HPt
      go_wp2_with fail
      refine (HSt.out _ _ G5.out).mono ?_
      obtain ⟨b2, hb2⟩ : ∃ b, b = w5.heap.size := ⟨_, rfl⟩
      rw [← hb2]
      rintro e w6 ⟨rfl, s6, B6⟩
      have G6 := Lib.hid (G5.out.on (by rw [← hb2]; exact B6))
      have S6 := Lib.hid s6
      clear hb2 s6 B6 G5 HSt
      go_wp2_with fail
      refine (HT.out _).mono ?_
      rintro e w7 ⟨rfl, B7⟩
      have G7 := Lib.hid (G6.out.on B7)
      have S7 := Lib.hid (S6.out.on B7)
      clear B7 G6 S6 HT
      go_wp2_with fail
      refine (HBy.out _ _ S7.out).mono ?_
      rintro e w8 ⟨a8, n8, c8, rfl, hk8, B8⟩
      have G8 := Lib.hid (G7.out.on B8)
      have S8 := Lib.hid (S7.out.on B8)
      have hkk := hk8 _ (Below.refl _ _)
      clear B8 hk8 G7 S7 HBy
      go_wp2_with fail
      refine (HLen.out _ _ _ G8.out).mono ?_
      rintro e w9 ⟨rfl, rfl⟩
      go_wp2_with fail
      refine (HLn.out _ _ S8.out).mono ?_
      rintro e w9 ⟨rfl, rfl⟩
      have C8 := Lib.hid (HU.out _ G8.out.bel).1
      clear G8 S8 HLn HLen hkk
      go_wp2
      go_returns
      exact ⟨rfl, C8.out⟩

theorem walk (v : Value) (L : List ReqV) (qc qs qk qi qm : Int) (qd : ByteArray) (w : World) (hV : Reqs w w.heap.size v L) (hqd : qd.size ≤ maxLen) :
    Calls Try.prog 7 #[v, .agg #[.int .i64 qc, .int .i64 qs, .int .i64 qk, .int .i64 qi, .int .i64 qm, .string qd]] w fun e w' => e = .returned (.bool true) ∧ Below w.heap.size w w' := by
  have hV' := hV
  obtain ⟨ao, cap, rfl, _⟩ := hV
  obtain ⟨hat, _, hml, hms⟩ := reqs_at hV'
  exact run ao _ cap L qc qs qk qi qm qd w rfl hms hat hqd

set_option maxRecDepth 100000 in
theorem lifted (os : Os) (started : os.Started) (H : Type) (enc : TypeId × Value → H) :
    ReturnsInHanded {} Try.checked os 7 .any (Rows.lineOwnSpec.pre6 enc Try.prog Try.f7 Rows.lineOwnRow.domain false) (Rows.lineOwnSpec.post enc Try.prog Try.f7 false true false false) := by
  refine returnsInHanded_of_change (C := Try.checked) own started (by kernel_rfl) Try.func7
    (ChangeSpec.witness6 (enc := enc) (C := Try.checked) false ⟨#[], #[.slice none 0 0, .agg #[.int .i64 0, .int .i64 0, .int .i64 0, .int .i64 0, .int .i64 0, .string ByteArray.empty]], []⟩ 8 (by kernel_rfl) (by kernel_rfl) (by kernel_rfl) (by kernel_rfl)) ?_
  intro W base args ds gs before hval0 hW hcnd _
  have hval : ∀ (j : Nat) t v, Try.f7.params[j]? = some t → args[j]? = some v → Value.okWide Try.prog W .any base t v := hval0
  have hW' := hW
  obtain ⟨p, q, hA0, hV, rfl, hfz, hnd⟩ := hW
  have hA : DataW.TrodAll enc Try.prog W 0 (fun _ => true) true Try.f7.params.toList args.toList ds p := hA0
  rw [Try.params7] at hA hval
  obtain ⟨v0, vs0, d0, ds0, p0, q0, hargs, rfl, rfl, h0, r0⟩ := trodAll_cons hA
  obtain ⟨v1, vs1, d1, ds1, p1, q1, rfl, rfl, rfl, h1, r1⟩ := trodAll_cons r0
  obtain ⟨rfl, rfl, rfl⟩ := trodAll_nil r1
  obtain rfl : args = #[v0, v1] := by cases args; simp_all
  obtain ⟨rfl, rfl⟩ := trodVars_none hV
  obtain ⟨a0, len0, cap0, rfl⟩ := okWide_slice Try.underlying22 (hval 0 22 v0 rfl rfl)
  have k0 := h0
  have lt0 : ∀ x ∈ p0, x.block < W.heap.size := by obtain ⟨m, hm⟩ := k0; exact DataW.trod_lt m _ _ _ hm
  obtain ⟨l0, w0⟩ := reqs_open h0
  have k1 := h1
  have lt1 : ∀ x ∈ p1, x.block < W.heap.size := by obtain ⟨m, hm⟩ := k1; exact DataW.trod_lt m _ _ _ hm
  obtain ⟨⟨xa1, xb1, xc1, xd1, xe1, xf1⟩, w1, rfl⟩ := req_open (hval 1 29 v1 rfl rfl) h1
  clear hA0 hval0
  refine (walk (.slice a0 len0 cap0) l0 xa1 xb1 xc1 xd1 xe1 xf1 W w0 w1).mono fun e W' ⟨he, bel⟩ => ?_
  subst he
  exact ⟨_, rfl, _, _, _, [], _, [], hW', trodAll_mk1 (shut_bool Try.underlying4 _), (trodAll_cons_mk (Below.trod laidOut (by kernel_rfl) (of_decide_eq_true (by kernel_rfl)) k0 bel lt0) (trodAll_cons_mk (Below.trod laidOut (by kernel_rfl) (of_decide_eq_true (by kernel_rfl)) k1 bel lt1) trodAll_mk0)), rfl, bel.frame _, fun h => by cases h⟩

theorem over : Rows.lineOwnRow.holds Try.pinned (OpenSpec.ofChange Rows.lineOwnSpec) :=
  OpenClaim.holds_of_wide 7 Try.f7 rfl rfl rfl rfl rfl rfl rfl ⟨rfl, rfl, rfl, rfl, rfl⟩ rfl rfl rfl rfl rfl (by kernel_rfl) Try.func7 (by kernel_rfl)
    (of_decide_eq_true (by kernel_rfl)) (by unfold Func.isWrapper; first | (rw [if_pos (by decide +kernel)]; kernel_rfl) | (rw [if_neg (by decide +kernel)]; exact ⟨rfl, rfl⟩))
    (fun os started H enc _ => lifted os started H enc)
end Go.Proofs.Ytkbjnhonopgffaa.LineOwn

namespace Go.Proofs.Ytkbjnhonopgffaa
theorem lineOwn_holds : Rows.LineOwnSaid := LineOwn.over
#print axioms lineOwn_holds
end Go.Proofs.Ytkbjnhonopgffaa
