/-
  PROVED: casebooklaw18.LineCommits answers true and leaves its arguments as they were, for any requests and any ints: the row's own reading and nothing else is assumed.
-/
import Derived.Test.YtkbjnhonopgffaaLnU
import Derived.Test.YtkbjnhonopgffaaDiskV
import Derived.Laws.BitsLemmas
namespace Go.Proofs.Ytkbjnhonopgffaa.LineCommits
open Go.ChangeShapes Go.WideShapes Go.ChangeAt Go.RowKit

theorem and1 (n : Int) : bits .and .i64 n 1 = n % 2 := by
  have h127 : (BitVec.ofInt 64 1).toNat = 2 ^ 1 - 1 := by decide
  have key : (BitVec.ofInt 64 n &&& BitVec.ofInt 64 1).toNat = (n % ((2 ^ 64 : Nat) : Int)).toNat % 2 ^ 1 := by
    rw [BitVec.toNat_and, BitVec.toNat_ofInt, h127, Nat.and_two_pow_sub_one_eq_mod]
  show IntKind.i64.wrap ((BitVec.ofInt 64 n &&& BitVec.ofInt 64 1).toNat : Nat) = n % 2
  rw [key, IntKind.wrap_i64]
  omega
/-- How Reply ends, its error alone told. -/
def RepX (x : Int) (u : World) (e : Ending) (w' : World) : Prop := ∃ (a b : Int) (d : ByteArray) (ao : Option Addr) (cap : Nat), e = .returned (.tuple #[.agg #[.int .i64 a, .int .i64 b, .string d, .slice ao 0 cap], .int .i64 x]) ∧ Below u.heap.size u w'
/-- How LNew ends. -/
def NewX (w : World) (e : Ending) (w' : World) : Prop := ∃ g S, e = .returned (.tuple #[.pointer (some ⟨g, 0, none⟩), .int .i64 0]) ∧ Hid (GLo w.heap.size w g 6 [] 0 S w')

set_option maxRecDepth 100000 in
set_option maxHeartbeats 8000000 in
theorem run (ao : Option Addr) (n cap : Nat) (L0 : List ReqV) (ai : Option Addr) (ni ci : Nat) (M : List Int) (w : World) (hn : L0.length = n) (hs : ∀ q ∈ L0, q.data.size ≤ maxLen) (HL : Hid (ReqsAt w ao L0)) (hI : Ints w w.heap.size (.slice ai ni ci) M) :
    Calls Try.prog 3 #[.slice ao n cap, .slice ai ni ci] w fun e w' => e = .returned (.bool true) ∧ Below w.heap.size w w' := by
  have H1 : Hid (Calls Try.prog 11 #[.int .i64 6] w (NewX w)) := (glo_new 6 (by decide) (by decide) (Below.refl w.heap.size w) (Nat.le_refl _)).mono fun _ _ ⟨g, S, he, h⟩ => ⟨g, S, he, h.out.1⟩
  have HT := Lib.hid (fun u => told18_any u)
  have HN := Lib.hid hn
  have HS := Lib.hid hs
  obtain ⟨hI1, hI2⟩ := ints_cell hI
  have HI := Lib.hid hI2
  clear hn hs hI hI1 hI2
  go_enter Try.func3, Try.ntmps3
  go_wp2_with fail
  refine H1.out.mono ?_
  rintro e w1 ⟨g, S0, rfl, G0⟩
  by_cases h30 : 30 < n
  · go_wp2_with fail
    refine (HT.out _).mono ?_
    rintro e w2 ⟨rfl, B2⟩
    have C2 : Hid (Below w.heap.size w w2) := G0.out.bel.trans (B2.mono G0.out.size)
    clear B2
    go_wp2
    go_returns
    exact ⟨rfl, C2.out⟩
  have h31 : n ≤ 30 := by omega
  clear h30
  go_wp2
  go_loopw [7] (fun vi wr => ∃ (k : Nat) (L : List ReqV) (c : Nat) (S : Nat → Prop), k ≤ n ∧ vi = .int .i64 k ∧ L.length ≤ k ∧ Hid (GLo w.heap.size w g 6 L c S wr)) (fun vi _ => n - (intOf vi).toNat)
  case atStart => exact ⟨0, [], 0, S0, by omega, rfl, Nat.le_refl _, G0⟩
  case round =>
    obtain ⟨k, L, c, S, hk, rfl, hLk, HG⟩ := hrel
    clear G0 H1
    by_cases hlt : k < n
    · have hkL : k < L0.length := by rw [HN.out]; exact hlt
      obtain ⟨b, off, rfl, hb, hc⟩ := HL.out k hkL
      have FX := Lib.hid hc
      have hsz := HS.out _ (List.getElem_mem hkL)
      clear hc
      generalize L0[k] = q at FX hsz
      obtain ⟨L', p, x, hV⟩ : ∃ L' p x, lputV L q = (L', p, x) := ⟨_, _, _, rfl⟩
      have hle := lputV_len L q
      rw [hV] at hle
      obtain ⟨hl1, hl2⟩ := hle
      simp only at hl1 hl2
      have i0 : (0 : Int) ≤ (k : Int) := by omega
      have i1 : (k : Int) < (n : Int) := by omega
      have HPut : Hid (∀ u, GLo w.heap.size w g 6 L c S u → Calls Try.prog 13 #[.pointer (some ⟨g, 0, none⟩), .agg #[.int .i64 q.client, .int .i64 q.seq, .int .i64 q.kind, .int .i64 q.id, .int .i64 q.mtch, .string q.data]] u (PutLR w.heap.size w g 6 L' p x c S u)) :=
        fun u hu => hu.put (by omega) q.client q.seq q.kind q.id q.mtch q.data hsz L' p x hV
      obtain ⟨f0, f1, f2, f3, f4, f5⟩ := FX.out wr HG.out.bel
      obtain ⟨cl, sq, kd, id, mt, dt⟩ := q
      simp only at HPut hsz f0 f1 f2 f3 f4 f5
      unfold maxLen at hsz
      clear hV hkL
      by_cases h100 : 100 < dt.size
      · go_wp2_with fail
        refine (HT.out _).mono ?_
        rintro e w2 ⟨rfl, B2⟩
        have C2 : Hid (Below w.heap.size w w2) := HG.out.bel.trans (B2.mono HG.out.size)
        clear B2
        go_wp2
        go_returns
        exact ⟨rfl, C2.out⟩
      have h101 : dt.size ≤ 100 := by omega
      clear h100
      by_cases hki : k < ni
      · obtain ⟨bi, oi, rfl, hbi, hci⟩ := HI.out k hki
        have hcm : ∀ S2 u, GLo w.heap.size w g 6 L' c S2 u → u.cell? ⟨bi, oi + k, none⟩ = some (.int .i64 (M.getD k 0)) := fun S2 u hu => (hu.bel.cell (p := ⟨bi, oi + k, none⟩) hbi).trans hci
        obtain ⟨m, hm⟩ : ∃ m, m = M.getD k 0 := ⟨_, rfl⟩
        rw [← hm] at hcm
        clear hci hbi hm
        have HCM := Lib.hid hcm
        clear hcm
        have hki3 : (k : Int) < (ni : Int) := by omega
        go_wp2_with fail
        refine (HPut.out _ HG.out).mono ?_
        rintro e w2 ⟨rfl, S2, T2⟩
        have G2 := Lib.hid T2.lo
        have m0 := HCM.out _ _ G2.out
        clear T2 HCM HPut HG FX
        have HRn : Hid (∀ (c : Nat) S u, GLo w.heap.size w g 6 L' c S u → Calls Try.prog 17 #[.pointer (some ⟨g, 0, none⟩), .int .i64 ((c : Int) + 1)] u (RepX 6 u)) :=
          fun c S u hu => (hu.replyNo ((c : Int) + 1) (by omega)).mono fun _ _ ⟨he, hb⟩ => ⟨0, 0, ⟨#[]⟩, none, 0, he, hb⟩
        have HRy : Hid (∀ (c : Nat) S u, GLo w.heap.size w g 6 L' c S u → (c = 0 ∧ Calls Try.prog 17 #[.pointer (some ⟨g, 0, none⟩), .int .i64 (c : Int)] u (RepX 6 u)) ∨ (0 < c ∧ Calls Try.prog 17 #[.pointer (some ⟨g, 0, none⟩), .int .i64 (c : Int)] u (RepX 0 u))) := fun c S u hu => by
          rcases Nat.eq_zero_or_pos c with h | h
          · exact .inl ⟨h, (hu.replyNo (c : Int) (by omega)).mono fun _ _ ⟨he, hb⟩ => ⟨0, 0, ⟨#[]⟩, none, 0, he, hb⟩⟩
          · obtain ⟨j, rfl⟩ : ∃ j, c = j + 1 := ⟨c - 1, by omega⟩
            exact .inr ⟨h, (hu.replyYes (by omega) j (by omega) _ rfl).mono fun _ _ ⟨ao, cap, he, _, hb⟩ => ⟨_, _, _, ao, cap, he, hb⟩⟩
        go_upto_if 61 with fail
        go_cut [8] (fun s8 wc => ∃ m' : Int, s8 = .int .i64 m' ∧ Hid (GLo w.heap.size w g 6 L' c S2 wc))
        case first =>
          rcases (show k % 2 = 0 ∨ k % 2 = 1 by omega) with hpar | hpar
          · have hb : bits .and .i64 (k : Int) 1 = 0 := by rw [and1]; omega
            go_wp2_with fail
            refine G2.out.len.mono ?_
            rintro e w3 ⟨rfl, rfl⟩
            go_wp2
            go_meet
            exact ⟨_, rfl, G2⟩
          · have hb : bits .and .i64 (k : Int) 1 = 1 := by rw [and1]; omega
            go_wp2
            go_meet
            exact ⟨_, rfl, G2⟩
        case rest =>
          obtain ⟨m', rfl, G3⟩ := hcut
          have hok := G3.out.ok.2.1
          have hP : (∃ c' : Nat, m' = c' ∧ c ≤ c' ∧ c' ≤ L'.length) ∨ m' < c ∨ ((c : Int) ≤ m' ∧ (L'.length : Int) < m') := by
            by_cases h1 : m' < c
            · exact .inr (.inl h1)
            · by_cases h2 : (L'.length : Int) < m'
              · exact .inr (.inr ⟨by omega, h2⟩)
              · exact .inl ⟨m'.toNat, by omega, by omega, by omega⟩
          go_wp2_with fail
          refine G3.out.com.mono ?_
          rintro e w3 ⟨rfl, rfl⟩
          go_upto_region 17 with fail
          go_cut [10] (fun s10 wd => ∃ (x : Int) (c3 : Nat) (S4 : Nat → Prop) (ok : Bool), s10 = .int .i64 x ∧ Hid ((ok = true ∧ x = 0 ∧ m' = (c3 : Int) ∧ c ≤ c3 ∧ c3 ≤ L'.length) ∨ (ok = false ∧ x = 6 ∧ c3 = c ∧ (m' < c ∨ ((c : Int) ≤ m' ∧ (L'.length : Int) < m')))) ∧ Hid (GLo w.heap.size w g 6 L' c3 S4 wd))
          case first =>
            rcases hP with ⟨c3, rfl, h3, h4⟩ | hP
            · have HC : Hid (Calls Try.prog 16 #[.pointer (some ⟨g, 0, none⟩), .int .i64 (c3 : Int)] wc (ComR w.heap.size w g 6 L' c3 S2 wc)) := G3.out.comYes (by omega) c3 h3 h4
              go_wp2_with fail
              refine HC.out.mono ?_
              rintro e w4 ⟨rfl, S4, T4⟩
              have G4 := Lib.hid T4.lo
              clear T4 HC
              go_wp2
              go_meet
              exact ⟨0, c3, S4, true, rfl, .inl ⟨rfl, rfl, rfl, h3, h4⟩, G4⟩
            · have HC : Hid (Calls Try.prog 16 #[.pointer (some ⟨g, 0, none⟩), .int .i64 m'] wc fun e w' => e = .returned (.int .i64 6) ∧ Below wc.heap.size wc w') := G3.out.comNo m' (by omega)
              go_wp2_with fail
              refine HC.out.mono ?_
              rintro e w4 ⟨rfl, B4⟩
              have G4 := Lib.hid (G3.out.on B4)
              clear B4 HC
              go_wp2
              go_meet
              exact ⟨6, c, S2, false, rfl, .inr ⟨rfl, rfl, rfl, hP⟩, G4⟩
          case rest =>
          clear hP G3 G2
          obtain ⟨x, c3, S4, ok, rfl, HK, G4⟩ := hcut
          go_upto_region 18 with fail
          go_cut [11] (fun s11 wd => s11 = .bool ok ∧ wc = wd)
          case first =>
            rcases HK.out with ⟨rfl, rfl, rfl, h3, h4⟩ | ⟨rfl, rfl, rfl, h3 | ⟨h3, h4⟩⟩
            · have h5 : (c : Int) ≤ (c3 : Int) := by omega
              have h6 : (c3 : Int) ≤ (L'.length : Int) := by omega
              clear HK
              go_wp2_with fail
              refine G4.out.len.mono ?_
              rintro e w3 ⟨rfl, rfl⟩
              go_wp2
              go_meet
              exact ⟨rfl, rfl⟩
            · clear HK
              go_wp2
              go_meet
              exact ⟨rfl, rfl⟩
            · clear HK
              go_wp2_with fail
              refine G4.out.len.mono ?_
              rintro e w3 ⟨rfl, rfl⟩
              go_wp2
              go_meet
              exact ⟨by rw [decide_eq_false (by omega)], rfl⟩
          case rest =>
          obtain ⟨rfl, rfl⟩ := hcut
          go_upto_region 19 with fail
          go_cut [106] (fun s106 wd => s106 = .bool false ∧ wc = wd)
          case first =>
            rcases HK.out with ⟨rfl, rfl, rfl, h3, h4⟩ | ⟨rfl, rfl, rfl, h3⟩
            · clear HK
              go_wp2_with fail
              refine G4.out.com.mono ?_
              rintro e w3 ⟨rfl, rfl⟩
              go_wp2
              go_meet
              exact ⟨rfl, rfl⟩
            · clear HK
              go_wp2_with fail
              refine G4.out.com.mono ?_
              rintro e w3 ⟨rfl, rfl⟩
              go_wp2
              go_meet
              exact ⟨rfl, rfl⟩
          case rest =>
          obtain ⟨rfl, rfl⟩ := hcut
          clear HK
          have hok3 := G4.out.ok.2.1
          have hc30 : (c3 : Int) + 1 ≤ 40 := by omega
          go_wp2_with fail
          refine G4.out.com.mono ?_
          rintro e w3 ⟨rfl, rfl⟩
          go_wp2_with fail
          refine (HRn.out _ _ _ G4.out).mono ?_
          rintro e w5 ⟨a5, b5, d5, o5, p5, rfl, B5⟩
          have G5 := Lib.hid (G4.out.on B5)
          have G6 := Lib.hid (G5.out.on ((Below.refl _ _).alloc (Nat.le_refl _) (.cells #[.int .i64 a5, .int .i64 b5, .string d5, .slice o5 0 p5] 36)))
          clear B5 G4 G5 HRn HT
          go_wp2_with fail
          refine G6.out.com.mono ?_
          rintro e w6 ⟨rfl, rfl⟩
          rcases HRy.out _ _ _ G6.out with ⟨h7, HY⟩ | ⟨h7, HY⟩
          · have h8 : ¬ (0 : Int) < (c3 : Int) := by omega
            clear h7
            have H7 := Lib.hid HY
            clear HY HRy
            go_wp2_with fail
            refine H7.out.mono ?_
            rintro e w6 ⟨a6, b6, d6, o6, p6, rfl, B6⟩
            have G7 := Lib.hid (G6.out.on B6)
            have G8 := Lib.hid (G7.out.on ((Below.refl _ _).alloc (Nat.le_refl _) (.cells #[.int .i64 a6, .int .i64 b6, .string d6, .slice o6 0 p6] 36)))
            clear B6 H7 G6 G7
            go_wp2_with fail
            refine G8.out.com.mono ?_
            rintro e w7 ⟨rfl, rfl⟩
            go_wp2
            go_roundw
            case rel => exact ⟨k + 1, L', c3, S4, by omega, by go_num, by omega, G8⟩
            case measure => simp [intOf]; omega
          · have h8 : (0 : Int) < (c3 : Int) := by omega
            have H7 := Lib.hid HY
            clear HY HRy
            go_wp2_with fail
            refine H7.out.mono ?_
            rintro e w6 ⟨a6, b6, d6, o6, p6, rfl, B6⟩
            have G7 := Lib.hid (G6.out.on B6)
            have G8 := Lib.hid (G7.out.on ((Below.refl _ _).alloc (Nat.le_refl _) (.cells #[.int .i64 a6, .int .i64 b6, .string d6, .slice o6 0 p6] 36)))
            clear B6 H7 G6 G7
            go_wp2_with fail
            refine G8.out.com.mono ?_
            rintro e w7 ⟨rfl, rfl⟩
            go_wp2
            go_roundw
            case rel => exact ⟨k + 1, L', c3, S4, by omega, by go_num, by omega, G8⟩
            case measure => simp [intOf]; omega
      · have hki2 : ni ≤ k := by omega
        have hki3 : (ni : Int) ≤ (k : Int) := by omega
        go_wp2_with fail
        refine (HPut.out _ HG.out).mono ?_
        rintro e w2 ⟨rfl, S2, T2⟩
        have G2 := Lib.hid T2.lo
        clear T2
        go_wp2
        go_roundw
        case rel => exact ⟨k + 1, L', c, S2, by omega, by go_num, by omega, G2⟩
        case measure => simp [intOf]; omega
    · obtain rfl : k = n := by omega
      have hok := HG.out.ok
      have HSt : Hid (Calls Try.prog 18 #[.pointer (some ⟨g, 0, none⟩)] wr fun e w' => e = .returned (.pointer (some ⟨wr.heap.size, 0, none⟩)) ∧ Sto layP w' wr.heap.size (stoOf 6 (L.take c)) ∧ Below wr.heap.size wr w') := HG.out.store (by omega)
      have hpl : (stoOf 6 (L.take c)).places = c := by
        have h := (stoOf_seq 6 (L.take c) (okL_take hok.1 c)).2
        rwa [List.length_take, Nat.min_eq_left hok.2.1] at h
      have HLn : Hid (∀ u, Sto layP u wr.heap.size (stoOf 6 (L.take c)) → Calls Try.prog 19 #[.pointer (some ⟨wr.heap.size, 0, none⟩)] u fun e w' => e = .returned (.int .i64 c) ∧ u = w') := fun u hu => by
        have h := slen_r wr.heap.size (stoOf 6 (L.take c)) u hu
        rwa [hpl] at h
      obtain ⟨s, hsv⟩ : ∃ s, s = stoOf 6 (L.take c) := ⟨_, rfl⟩
      obtain ⟨bb, hbb⟩ : ∃ b, b = wr.heap.size := ⟨_, rfl⟩
      rw [← hsv, ← hbb] at HSt HLn
      have HBB := Lib.hid hbb
      clear hok hpl hsv hbb
      go_wp2_with fail
      refine HSt.out.mono ?_
      rintro e w2 ⟨rfl, s2, B2⟩
      have S2 := Lib.hid s2
      have G2 := Lib.hid (HG.out.on (by rw [← HBB.out]; exact B2))
      clear B2 s2 HG HSt
      go_wp2_with fail
      refine (HT.out _).mono ?_
      rintro e w3 ⟨rfl, B3⟩
      have S3 := Lib.hid (S2.out.on B3)
      have G3 := Lib.hid (G2.out.on B3)
      clear B3 G2 S2
      go_wp2_with fail
      refine (HLn.out _ S3.out).mono ?_
      rintro e w4 ⟨rfl, rfl⟩
      go_wp2_with fail
      refine G3.out.com.mono ?_
      rintro e w4 ⟨rfl, rfl⟩
      have C3 := Lib.hid G3.out.bel
      clear G3 S3 HT HLn
      go_wp2
      go_returns
      exact ⟨rfl, C3.out⟩

theorem walk (v : Value) (L : List ReqV) (v2 : Value) (M : List Int) (w : World) (hV : Reqs w w.heap.size v L) (hI : Ints w w.heap.size v2 M) :
    Calls Try.prog 3 #[v, v2] w fun e w' => e = .returned (.bool true) ∧ Below w.heap.size w w' := by
  have hV' := hV
  obtain ⟨ao, cap, rfl, _⟩ := hV
  obtain ⟨hat, _, hml, hms⟩ := reqs_at hV'
  have hI' := hI
  obtain ⟨ai, ci, rfl, _⟩ := hI
  exact run ao _ cap L ai _ ci M w rfl hms hat hI'

set_option maxRecDepth 100000 in
theorem lifted (os : Os) (started : os.Started) (H : Type) (enc : TypeId × Value → H) :
    ReturnsInHanded {} Try.checked os 3 .any (Rows.lineCommitsSpec.pre6 enc Try.prog Try.f3 Rows.lineCommitsRow.domain false) (Rows.lineCommitsSpec.post enc Try.prog Try.f3 false true false false) := by
  refine returnsInHanded_of_change (C := Try.checked) own started (by kernel_rfl) Try.func3
    (ChangeSpec.witness6 (enc := enc) (C := Try.checked) false ⟨#[], #[.slice none 0 0, .slice none 0 0], []⟩ 8 (by kernel_rfl) (by kernel_rfl) (by kernel_rfl) (by kernel_rfl)) ?_
  intro W base args ds gs before hval0 hW hcnd _
  have hval : ∀ (j : Nat) t v, Try.f3.params[j]? = some t → args[j]? = some v → Value.okWide Try.prog W .any base t v := hval0
  have hW' := hW
  obtain ⟨p, q, hA0, hV, rfl, hfz, hnd⟩ := hW
  have hA : DataW.TrodAll enc Try.prog W 0 (fun _ => true) true Try.f3.params.toList args.toList ds p := hA0
  rw [Try.params3] at hA hval
  obtain ⟨v0, vs0, d0, ds0, p0, q0, hargs, rfl, rfl, h0, r0⟩ := trodAll_cons hA
  obtain ⟨v1, vs1, d1, ds1, p1, q1, rfl, rfl, rfl, h1, r1⟩ := trodAll_cons r0
  obtain ⟨rfl, rfl, rfl⟩ := trodAll_nil r1
  obtain rfl : args = #[v0, v1] := by cases args; simp_all
  obtain ⟨rfl, rfl⟩ := trodVars_none hV
  obtain ⟨a0, len0, cap0, rfl⟩ := okWide_slice Try.underlying22 (hval 0 22 v0 rfl rfl)
  have k0 := h0
  have lt0 : ∀ x ∈ p0, x.block < W.heap.size := by obtain ⟨m, hm⟩ := k0; exact DataW.trod_lt m _ _ _ hm
  obtain ⟨l0, w0⟩ := reqs_open h0
  obtain ⟨a1, len1, cap1, rfl⟩ := okWide_slice Try.underlying23 (hval 1 23 v1 rfl rfl)
  have k1 := h1
  have lt1 : ∀ x ∈ p1, x.block < W.heap.size := by obtain ⟨m, hm⟩ := k1; exact DataW.trod_lt m _ _ _ hm
  obtain ⟨l1, w1⟩ := ints_open h1
  clear hA0 hval0
  refine (walk (.slice a0 len0 cap0) l0 (.slice a1 len1 cap1) l1 W w0 w1).mono fun e W' ⟨he, bel⟩ => ?_
  subst he
  exact ⟨_, rfl, _, _, _, [], _, [], hW', trodAll_mk1 (shut_bool Try.underlying4 _), (trodAll_cons_mk (Below.trod laidOut (by kernel_rfl) (of_decide_eq_true (by kernel_rfl)) k0 bel lt0) (trodAll_cons_mk (Below.trod laidOut (by kernel_rfl) (of_decide_eq_true (by kernel_rfl)) k1 bel lt1) trodAll_mk0)), rfl, bel.frame _, fun h => by cases h⟩

theorem over : Rows.lineCommitsRow.holds Try.pinned (OpenSpec.ofChange Rows.lineCommitsSpec) :=
  OpenClaim.holds_of_wide 3 Try.f3 rfl rfl rfl rfl rfl rfl rfl ⟨rfl, rfl, rfl, rfl, rfl⟩ rfl rfl rfl rfl rfl (by kernel_rfl) Try.func3 (by kernel_rfl)
    (of_decide_eq_true (by kernel_rfl)) (by unfold Func.isWrapper; first | (rw [if_pos (by decide +kernel)]; kernel_rfl) | (rw [if_neg (by decide +kernel)]; exact ⟨rfl, rfl⟩))
    (fun os started H enc _ => lifted os started H enc)
end Go.Proofs.Ytkbjnhonopgffaa.LineCommits

namespace Go.Proofs.Ytkbjnhonopgffaa
theorem lineCommits_holds : Rows.LineCommitsSaid := LineCommits.over
#print axioms lineCommits_holds
end Go.Proofs.Ytkbjnhonopgffaa
