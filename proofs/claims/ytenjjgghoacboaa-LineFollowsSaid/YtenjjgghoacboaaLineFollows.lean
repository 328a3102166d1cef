/-
  PROVED: casebooklaw18.LineFollows answers true and leaves its arguments as they were, for any requests and any ints: the row's own reading and nothing else is assumed.
-/
import Derived.Test.YtenjjgghoacboaaLnY
import Derived.Test.YtenjjgghoacboaaStoreL
import Derived.Test.YtenjjgghoacboaaDiskV
namespace Go.Proofs.Ytenjjgghoacboaa.LineFollows
open Go.ChangeShapes Go.WideShapes Go.ChangeAt Go.RowKit

/-- How the first LNew ends; the second one. -/
def NewX (w : World) (e : Ending) (w' : World) : Prop := ∃ g S, e = .returned (.tuple #[.pointer (some ⟨g, 0, none⟩), .int .i64 0]) ∧ Hid (GLo w.heap.size w g 6 [] 0 S w')
def NewY (w : World) (g1 : Nat) (S1 : Nat → Prop) (e : Ending) (w' : World) : Prop := ∃ g S, e = .returned (.tuple #[.pointer (some ⟨g, 0, none⟩), .int .i64 0]) ∧ Hid (LTwo w.heap.size w g1 g [] [] 0 0 S1 S w')

theorem left_9 (z : Int) : ∃ t : Nat, t < 9 ∧ wrap64 ((IntKind.u64.wrap z).tmod 9) = (t : Int) := by
  have h0 : 0 ≤ IntKind.u64.wrap z := by rw [IntKind.wrap_u64]; omega
  have h1 := Int.tmod_nonneg 9 h0
  have h2 := Int.tmod_lt_of_pos (IntKind.u64.wrap z) (show (0 : Int) < 9 by omega)
  refine ⟨((IntKind.u64.wrap z).tmod 9).toNat, by omega, ?_⟩
  rw [IntWalk.wrap64_in _ (by omega)]
  omega

set_option maxRecDepth 100000 in
set_option maxHeartbeats 3000000 in
theorem run (ao : Option Addr) (n cap : Nat) (L0 : List ReqV) (ai : Option Addr) (ni ci : Nat) (M : List Int) (w : World) (hn : L0.length = n) (hs : ∀ q ∈ L0, q.data.size ≤ maxLen) (HL : Hid (ReqsAt w ao L0)) (hI : Ints w w.heap.size (.slice ai ni ci) M) :
    Calls Try.prog 4 #[.slice ao n cap, .slice ai ni ci] w fun e w' => e = .returned (.bool true) ∧ Below w.heap.size w w' := by
  have H1 : Hid (Calls Try.prog 11 #[.int .i64 6] w (NewX w)) := (glo_new 6 (by decide) (by decide) (Below.refl w.heap.size w) (Nat.le_refl _)).mono fun _ _ ⟨g, S, he, h⟩ => ⟨g, S, he, h.out.1⟩
  have H2 : Hid (∀ g1 S1 u, GLo w.heap.size w g1 6 [] 0 S1 u → Calls Try.prog 11 #[.int .i64 6] u (NewY w g1 S1)) := fun g1 S1 u hu => (glo_new 6 (by decide) (by decide) hu.bel (Nat.le_refl _)).mono fun _ _ ⟨g, S, he, h⟩ => ⟨g, S, he, .first hu h.out.1 h.out.2.1 h.out.2.2⟩
  have HT := Lib.hid (fun u => told18_any u)
  have HN := Lib.hid hn
  have HS := Lib.hid hs
  obtain ⟨_, hI2⟩ := ints_cell hI
  have HI := Lib.hid hI2
  clear hn hs hI hI2
  go_enter Try.func4, Try.ntmps4
  go_wp2_with fail
  refine H1.out.mono ?_
  rintro e w1 ⟨g1, S0, rfl, G0⟩
  go_wp2_with fail
  refine (H2.out _ _ _ G0.out).mono ?_
  rintro e w2 ⟨g2, S9, rfl, T0⟩
  clear G0 H1 H2
  by_cases h30 : 60 < n
  · go_wp2_with fail
    refine (HT.out _).mono ?_
    rintro e w3 ⟨rfl, B2⟩
    have C2 := Lib.hid (T0.out.on B2).a.bel
    clear B2
    go_wp2
    go_returns
    exact ⟨rfl, C2.out⟩
  have h31 : n ≤ 60 := by omega
  clear h30
  go_wp2
  go_loopw [9] (fun vi wr => ∃ (k : Nat) (L : List ReqV) (S1 S2 : Nat → Prop), k ≤ n ∧ vi = .int .i64 k ∧ L.length ≤ k ∧ Hid (∀ q ∈ L, q.data.size ≤ maxLen) ∧ Hid (LTwo w.heap.size w g1 g2 L [] 0 0 S1 S2 wr)) (fun vi _ => n - (intOf vi).toNat)
  case atStart => exact ⟨0, [], S0, S9, by omega, rfl, Nat.le_refl _, (fun q hq => by cases hq), T0⟩
  case round =>
    obtain ⟨k, L, S1, S2, hk, rfl, hLk, HD, HG⟩ := hrel
    clear T0
    by_cases hlt : k < n
    · have hkL : k < L0.length := by rw [HN.out]; exact hlt
      obtain ⟨b, off, rfl, hb, hc⟩ := HL.out k hkL
      have FX := Lib.hid hc
      have hsz := HS.out _ (List.getElem_mem hkL)
      clear hc
      generalize L0[k] = q at FX hsz
      obtain ⟨L', p, x, hV⟩ : ∃ L' p x, lputV L q = (L', p, x) := ⟨_, _, _, rfl⟩
      have hle := lputV_len L q
      have hD' : ∀ r ∈ L', r.data.size ≤ maxLen := by
        have e : L' = (lputV L q).1 := by rw [hV]
        rw [e]
        intro r hr
        unfold lputV at hr
        split at hr
        · exact HD.out r hr
        · split at hr
          · exact HD.out r hr
          · rcases List.mem_append.1 hr with h | h
            · exact HD.out r h
            · rw [List.mem_singleton.1 h]; exact hsz
      have HD' := Lib.hid hD'
      clear hD'
      rw [hV] at hle
      obtain ⟨hl1, hl2⟩ := hle
      simp only at hl1 hl2
      have i0 : (0 : Int) ≤ (k : Int) := by omega
      have i1 : (k : Int) < (n : Int) := by omega
      have HPut : Hid (∀ u, LTwo w.heap.size w g1 g2 L [] 0 0 S1 S2 u → Calls Try.prog 19 #[.pointer (some ⟨g1, 0, none⟩), .agg #[.int .i64 q.client, .int .i64 q.seq, .int .i64 q.kind, .int .i64 q.id, .int .i64 q.mtch, .string q.data]] u fun e w' => e = .returned (.tuple #[.int .i64 p, .int .i64 x]) ∧ ∃ S1', Hid (LTwo w.heap.size w g1 g2 L' [] 0 0 S1' S2 w')) :=
        fun u hu => hu.put (by omega) q.client q.seq q.kind q.id q.mtch q.data hsz p x hV
      obtain ⟨f0, f1, f2, f3, f4, f5⟩ := FX.out wr HG.out.a.bel
      obtain ⟨cl, sq, kd, id, mt, dt⟩ := q
      simp only at HPut hsz f0 f1 f2 f3 f4 f5
      unfold maxLen at hsz
      clear hV hkL
      by_cases h100 : 100 < dt.size
      · go_wp2_with fail
        refine (HT.out _).mono ?_
        rintro e w3 ⟨rfl, B2⟩
        have C2 := Lib.hid (HG.out.on B2).a.bel
        clear B2
        go_wp2
        go_returns
        exact ⟨rfl, C2.out⟩
      have h101 : dt.size ≤ 100 := by omega
      clear h100
      go_wp2_with fail
      refine (HPut.out _ HG.out).mono ?_
      rintro e w3 ⟨rfl, S3, G2⟩
      clear HPut HG
      go_wp2
      go_roundw
      case rel => exact ⟨k + 1, L', S3, S2, by omega, by go_num, by omega, HD'.out, G2⟩
      case measure => simp [intOf]; omega
    · obtain rfl : k = n := by omega
      obtain ⟨N, hNL⟩ : ∃ N, N = L.length := ⟨_, rfl⟩
      have hN60 : N ≤ 60 := by omega
      have HNL := Lib.hid hNL
      clear hNL hLk HL HS HN
      have T1 : Hid (LTwo w.heap.size w g1 g2 L (L.take 0) 0 0 S1 S2 wr) := HG.out
      have HLA : Hid (∀ k S1 S2 u, LTwo w.heap.size w g1 g2 L (L.take k) 0 0 S1 S2 u → Calls Try.prog 15 #[.pointer (some ⟨g1, 0, none⟩)] u fun e w' => e = .returned (.int .i64 N) ∧ u = w') := fun k S1 S2 u hu => by rw [HNL.out]; exact hu.a.len
      have HLB : Hid (∀ (k : Nat) S1 S2 u, k ≤ N → LTwo w.heap.size w g1 g2 L (L.take k) 0 0 S1 S2 u → Calls Try.prog 15 #[.pointer (some ⟨g2, 0, none⟩)] u fun e w' => e = .returned (.int .i64 k) ∧ u = w') := fun k S1 S2 u hk hu => by
        have h := hu.b.len
        rw [HNL.out] at hk
        rwa [List.length_take, Nat.min_eq_left hk] at h
      clear HG
      go_wp2
      go_loopw [10] (fun vi wr => ∃ (i k : Nat) (S1 S2 : Nat → Prop), vi = .int .i64 i ∧ i ≤ k ∧ k ≤ N ∧ Hid (LTwo w.heap.size w g1 g2 L (L.take k) 0 0 S1 S2 wr)) (fun vi _ => 300 - (intOf vi).toNat)
      case atStart => exact ⟨0, 0, S1, S2, rfl, Nat.le_refl _, Nat.zero_le _, T1⟩
      case round =>
        obtain ⟨i, k, S3, S4, rfl, hik, hkN, HG⟩ := hrel
        clear T1
        have i200 : (i : Int) < 200 := by omega
        go_wp2_with fail
        refine (HLB.out k _ _ _ hkN HG.out).mono ?_
        rintro e w3 ⟨rfl, rfl⟩
        go_wp2_with fail
        refine (HLA.out k _ _ _ HG.out).mono ?_
        rintro e w3 ⟨rfl, rfl⟩
        by_cases hlt : k < N
        · go_upto_if 84 with fail
          go_cut [11] (fun s11 wc => ∃ p : Nat, s11 = .int .i64 p ∧ 1 ≤ p ∧ p ≤ 9 ∧ wc = wr)
          case first =>
            by_cases hi : i < ni
            · obtain ⟨b, off, rfl, hb, hcell⟩ := HI.out i hi
              have hc := (HG.out.a.bel.cell (p := ⟨b, off + i, none⟩) hb).trans hcell
              generalize M.getD i 0 = m at hc
              obtain ⟨t, ht, et⟩ := left_9 m
              have ET := Lib.hid et
              have hii : (i : Int) < (ni : Int) := by omega
              have hi0 : (0 : Int) ≤ (i : Int) := by omega
              clear hcell et
              go_wp2
              go_meet
              rw [ET.out]
              exact ⟨t + 1, by rw [IntWalk.wrap64_in _ (by omega), show (1 + (t : Int)) = ((t + 1 : Nat) : Int) by omega], by omega, by omega, rfl⟩
            · have hii : (ni : Int) ≤ (i : Int) := by omega
              go_wp2
              go_meet
              exact ⟨1, rfl, by omega, by omega, rfl⟩
          case rest =>
          obtain ⟨p, rfl, hp1, hp9, rfl⟩ := hcut
          go_upto_region 19 with fail
          go_cut [12] (fun s12 wd => ∃ fr : Nat, s12 = .int .i64 fr ∧ fr = k - p / 3 ∧ wd = wc)
          case first =>
            go_wp2_with fail
            refine (HLB.out k _ _ _ hkN HG.out).mono ?_
            rintro e w3 ⟨rfl, rfl⟩
            go_wp2
            all_goals go_meet
            · exact ⟨k - p / 3, by congr 1; omega, rfl, rfl⟩
            · exact ⟨k - p / 3, by congr 1; omega, rfl, rfl⟩
          case rest =>
          obtain ⟨fr, rfl, hfr, rfl⟩ := hcut
          obtain ⟨Q, hQ⟩ : ∃ Q, Q = comeQ L fr (cntQ L fr (p : Int)) := ⟨_, rfl⟩
          obtain ⟨m, hm⟩ : ∃ m, m = Q.length := ⟨_, rfl⟩
          have hct : cntQ L fr (p : Int) = min (N - fr) p := by unfold cntQ; rw [HNL.out, Int.toNat_natCast]
          have hmc : m = cntQ L fr (p : Int) := by rw [hm, hQ]; exact comeQ_len (by rw [hct, ← HNL.out]; omega)
          have hmv : m = min (N - fr) p := hmc.trans hct
          have HSi : Hid (Calls Try.prog 18 #[.pointer (some ⟨g1, 0, none⟩), .int .i64 (fr : Int), .int .i64 (p : Int)] wc (SinceR Q wc)) := by
            have h := HG.out.a.since (by rw [← HNL.out]; omega) fr (p : Int)
            rwa [← hQ] at h
          have HQA : Hid (∀ j, j < m → atL Q j = atL L (fr + j)) := fun j hj => by rw [hQ]; exact comeQ_at (by rw [← hmc]; exact hj)
          have HM := Lib.hid hm
          have hm60 : m ≤ 60 := by omega
          have hmL : fr + m ≤ N := by omega
          have hmk : i + 1 ≤ fr + m := by omega
          have hfk : fr ≤ k := by omega
          clear hQ hm hct hmc hmv hfr
          go_wp2_with fail
          refine HSi.out.mono ?_
          rintro e w3 ⟨v, rfl, h1, h2⟩
          obtain ⟨a, c, hv⟩ := own_shape h1
          have F3 := Lib.hid (LFol.first HG.out h2 h1)
          rw [← HM.out] at hv
          subst hv
          clear h1 h2 HG HSi
          obtain ⟨wo, hwo⟩ : ∃ wo, wo = wc := ⟨_, rfl⟩
          subst hwo
          go_wp2
          go_loopw [14] (fun vi wr => ∃ (j kk : Nat) (S5 : Nat → Prop), vi = .int .i64 j ∧ j ≤ m ∧ k ≤ kk ∧ fr + j ≤ kk ∧ (kk = k ∨ kk = fr + j) ∧ kk ≤ N ∧ Hid (LFol w.heap.size w g1 g2 L kk (.slice a m c) Q S3 S5 wr)) (fun vi _ => m - (intOf vi).toNat)
          case atStart => exact ⟨0, k, S4, rfl, Nat.zero_le _, Nat.le_refl _, by omega, .inl rfl, hkN, F3⟩
          case round =>
            obtain ⟨j, kk, S5, rfl, hj, hk1, hk2, hk3, hkkN, HF⟩ := hrel
            clear F3
            by_cases hjm : j < m
            · have hfj : fr + j < L.length := by rw [← HNL.out]; omega
              have hL1 : L.length ≤ 100000 := by rw [← HNL.out]; omega
              have hsz := HD.out (atL L (fr + j)) (by rw [atL_lt hfj]; exact List.getElem_mem hfj)
              obtain ⟨rb, rc, hv, hrc, hl, hcells⟩ := HF.out.all j (by rw [← HM.out]; exact hjm)
              rw [HQA j hjm] at hcells
              simp only [Value.slice.injEq] at hv
              obtain ⟨rfl, -, rfl⟩ := hv
              have HYes : Hid (kk = fr + j → ∀ q, atL L (fr + j) = q → ∀ u, LFol w.heap.size w g1 g2 L kk (.slice (some ⟨rb, 0, none⟩) m c) Q S3 S5 u → Calls Try.prog 20 #[.pointer (some ⟨g2, 0, none⟩), .int .i64 ((fr : Int) + (j : Int) + 1), .agg #[.int .i64 q.client, .int .i64 q.seq, .int .i64 q.kind, .int .i64 q.id, .int .i64 q.mtch, .string q.data]] u fun e w' => e = .returned (.int .i64 0) ∧ ∃ S2', Hid (LFol w.heap.size w g1 g2 L (kk + 1) (.slice (some ⟨rb, 0, none⟩) m c) Q S3 S2' w')) := fun e q hq u hu => by
                have h := hu.takeYes hL1 (by omega) q.client q.seq q.kind q.id q.mtch q.data (by rw [e]; exact hq) (by rw [← hq]; exact hsz)
                rwa [show ((kk : Int) + 1) = (fr : Int) + (j : Int) + 1 by omega] at h
              have HNo : Hid (fr + j < kk → ∀ q : ReqV, ∀ u, LFol w.heap.size w g1 g2 L kk (.slice (some ⟨rb, 0, none⟩) m c) Q S3 S5 u → Calls Try.prog 20 #[.pointer (some ⟨g2, 0, none⟩), .int .i64 ((fr : Int) + (j : Int) + 1), .agg #[.int .i64 q.client, .int .i64 q.seq, .int .i64 q.kind, .int .i64 q.id, .int .i64 q.mtch, .string q.data]] u fun e w' => e = .returned (.int .i64 9) ∧ Hid (LFol w.heap.size w g1 g2 L kk (.slice (some ⟨rb, 0, none⟩) m c) Q S3 S5 w')) := fun e q u hu =>
                hu.takeNo hL1 _ (by rw [← HNL.out]; exact hkkN) (by omega) q.client q.seq q.kind q.id q.mtch q.data
              have HLn : Hid (∀ u, LFol w.heap.size w g1 g2 L kk (.slice (some ⟨rb, 0, none⟩) m c) Q S3 S5 u → Calls Try.prog 15 #[.pointer (some ⟨g2, 0, none⟩)] u fun e w' => e = .returned (.int .i64 kk) ∧ u = w') := fun u hu => hu.len (by rw [← HNL.out]; exact hkkN)
              have HYs := Lib.hid (fun e => HYes.out e _ rfl)
              have HNs := Lib.hid (fun e => HNo.out e (atL L (fr + j)))
              clear HYes HNo hsz hl hrc
              generalize atL L (fr + j) = q at hcells HYs HNs
              obtain ⟨cl, sq, kd, id, mt, dt⟩ := q
              unfold ReqCells at hcells
              simp only at hcells HYs HNs
              obtain ⟨x0, x1, x2, x3, x4, x5⟩ := hcells
              have j0 : (0 : Int) ≤ (j : Int) := by omega
              have jm : (j : Int) < (m : Int) := by omega
              rcases (show kk = fr + j ∨ fr + j < kk by omega) with hE | hE
              · have hB : ((fr : Int) + (j : Int) == (kk : Int)) = true := by rw [beq_iff_eq]; omega
                have HYt := Lib.hid (HYs.out hE)
                have hk4 : k ≤ kk + 1 := by omega
                have hk5 : fr + (j + 1) ≤ kk + 1 := by omega
                have HK6 : Hid (kk + 1 = k ∨ kk + 1 = fr + (j + 1)) := .inr (by omega)
                have hk7 : kk + 1 ≤ N := by omega
                clear HYs HNs hE hk3 hfj
                go_wp2_with fail
                refine (HLn.out _ HF.out).mono ?_
                rintro e w3 ⟨rfl, rfl⟩
                go_wp2_with fail
                refine (HYt.out _ HF.out).mono ?_
                rintro e w3 ⟨rfl, S6, F6⟩
                clear HYt HLn HF x0 x1 x2 x3 x4 x5
                go_wp2
                go_roundw
                case rel => exact ⟨j + 1, kk + 1, S6, by go_num, by omega, hk4, hk5, HK6.out, hk7, F6⟩
                case measure => simp [intOf]; omega
              · have hB : ((fr : Int) + (j : Int) == (kk : Int)) = false := by rw [beq_eq_false_iff_ne]; omega
                have HNt := Lib.hid (HNs.out hE)
                have HK6 : Hid (kk = k ∨ kk = fr + (j + 1)) := by
                  rcases hk3 with h | h
                  · exact .inl h
                  · omega
                have hk5 : fr + (j + 1) ≤ kk := by omega
                clear HYs HNs hE hk3 hfj
                go_wp2_with fail
                refine (HLn.out _ HF.out).mono ?_
                rintro e w3 ⟨rfl, rfl⟩
                go_wp2_with fail
                refine (HNt.out _ HF.out).mono ?_
                rintro e w3 ⟨rfl, F6⟩
                clear HNt HLn HF x0 x1 x2 x3 x4 x5
                go_wp2
                go_roundw
                case rel => exact ⟨j + 1, kk, S5, by go_num, by omega, hk1, hk5, HK6.out, hkkN, F6⟩
                case measure => simp [intOf]; omega
            · obtain rfl : j = m := by omega
              have hkk2 : i + 1 ≤ kk := by omega
              have T2 := Lib.hid HF.out.two
              clear HF
              go_wp2
              go_roundw
              case rel => exact ⟨i + 1, kk, S3, S5, by go_num, hkk2, hkkN, T2⟩
              case measure => simp [intOf]; omega
        · obtain rfl : k = N := by omega
          clear HI HD hik i200
          obtain ⟨sv, hsv⟩ : ∃ s, s = stoOf 6 (L.take k) := ⟨_, rfl⟩
          have htk : L.take k = L := by rw [HNL.out, List.take_length]
          have hfit : Fit sv k := by rw [hsv, htk, HNL.out]; exact stoOf_fit (by decide) (by decide) L
          have T1 := HG.out
          rw [htk] at T1
          have T2 : Hid (LTwo w.heap.size w g1 g2 L L 0 0 S3 S4 wr) := T1
          have hcome : comeQ L 0 (cntQ L 0 100) = L := by
            unfold comeQ cntQ
            rw [List.drop_zero, show min (L.length - 0) (100 : Int).toNat = L.length from by have h : (100 : Int).toNat = 100 := rfl; have := HNL.out; omega, List.take_length]
          clear T1 HG HLA HLB
          have HA : Hid (∀ c1 c2 S1 S2 u, LTwo w.heap.size w g1 g2 L L c1 c2 S1 S2 u → Calls Try.prog 15 #[.pointer (some ⟨g1, 0, none⟩)] u fun e w' => e = .returned (.int .i64 k) ∧ u = w') := fun _ _ _ _ u hu => by rw [HNL.out]; exact hu.a.len
          have HB : Hid (∀ c1 c2 S1 S2 u, LTwo w.heap.size w g1 g2 L L c1 c2 S1 S2 u → Calls Try.prog 15 #[.pointer (some ⟨g2, 0, none⟩)] u fun e w' => e = .returned (.int .i64 k) ∧ u = w') := fun _ _ _ _ u hu => by rw [HNL.out]; exact hu.b.len
          have hL1 : L.length ≤ 100000 := by rw [← HNL.out]; omega
          have HSA : Hid (∀ S1 S2 u, LTwo w.heap.size w g1 g2 L L 0 0 S1 S2 u → Calls Try.prog 18 #[.pointer (some ⟨g1, 0, none⟩), .int .i64 0, .int .i64 100] u (SinceR L u)) := fun _ _ u hu => by
            have h := hu.a.since hL1 0 100
            rwa [hcome] at h
          have HSB : Hid (∀ S1 S2 u, LTwo w.heap.size w g1 g2 L L 0 0 S1 S2 u → Calls Try.prog 18 #[.pointer (some ⟨g2, 0, none⟩), .int .i64 0, .int .i64 100] u (SinceR L u)) := fun _ _ u hu => by
            have h := hu.b.since hL1 0 100
            rwa [hcome] at h
          have HCA : Hid (∀ S1 S2 u, LTwo w.heap.size w g1 g2 L L 0 0 S1 S2 u → Calls Try.prog 21 #[.pointer (some ⟨g1, 0, none⟩), .int .i64 k] u fun e w' => e = .returned (.int .i64 0) ∧ ∃ S1', Hid (LTwo w.heap.size w g1 g2 L L k 0 S1' S2 w')) := fun _ _ u hu => by rw [HNL.out]; exact hu.comA hL1
          have HCB : Hid (∀ S1 S2 u, LTwo w.heap.size w g1 g2 L L k 0 S1 S2 u → Calls Try.prog 21 #[.pointer (some ⟨g2, 0, none⟩), .int .i64 k] u fun e w' => e = .returned (.int .i64 0) ∧ ∃ S2', Hid (LTwo w.heap.size w g1 g2 L L k k S1 S2' w')) := fun _ _ u hu => by rw [HNL.out] at hu ⊢; exact hu.comB hL1
          have HRA : Hid (∀ m, m < k → ∃ A : PutA, (∀ S1 S2 u, LTwo w.heap.size w g1 g2 L L k k S1 S2 u → Calls Try.prog 22 #[.pointer (some ⟨g1, 0, none⟩), .int .i64 ((m : Int) + 1)] u (RepR A.code A.ver A.data u) ∧ Calls Try.prog 22 #[.pointer (some ⟨g2, 0, none⟩), .int .i64 ((m : Int) + 1)] u (RepR A.code A.ver A.data u))) := fun m hm => ⟨_, fun _ _ u hu => ⟨hu.a.replyYes hL1 m hm _ rfl, hu.b.replyYes hL1 m hm _ rfl⟩⟩
          have HSt : Hid (∀ S1 S2 u, LTwo w.heap.size w g1 g2 L L k k S1 S2 u → (Calls Try.prog 24 #[.pointer (some ⟨g1, 0, none⟩)] u fun e w' => e = .returned (.pointer (some ⟨u.heap.size, 0, none⟩)) ∧ Sto layP w' u.heap.size sv ∧ Below u.heap.size u w') ∧ (Calls Try.prog 24 #[.pointer (some ⟨g2, 0, none⟩)] u fun e w' => e = .returned (.pointer (some ⟨u.heap.size, 0, none⟩)) ∧ Sto layP w' u.heap.size sv ∧ Below u.heap.size u w')) := fun _ _ u hu => by rw [hsv]; exact ⟨hu.a.store hL1, hu.b.store hL1⟩
          obtain ⟨SS, hSS⟩ : ∃ SS, SS = stoS sv := ⟨_, rfl⟩
          have HBy : Hid (∀ b u, Sto layP u b sv → Calls Try.prog 25 #[.pointer (some ⟨b, 0, none⟩)] u (BytesStr SS u)) := fun b u hu => by rw [hSS]; exact sbytes_s b sv k u hu hfit (by omega)
          clear hSS hfit hsv htk hcome hL1
          go_wp2_with fail
          refine (HB.out _ _ _ _ _ T2.out).mono ?_
          rintro e w3 ⟨rfl, rfl⟩
          go_wp2_with fail
          refine (HA.out _ _ _ _ _ T2.out).mono ?_
          rintro e w3 ⟨rfl, rfl⟩
          go_wp2_with fail
          refine (HSA.out _ _ _ T2.out).mono ?_
          rintro e w3 ⟨va, rfl, a1, a2⟩
          obtain ⟨aa, ca, hva⟩ := own_shape a1
          rw [← HNL.out] at hva
          subst hva
          have R3 := Lib.hid (AllAt.of a1)
          have T3 := Lib.hid (T2.out.on a2)
          clear T2 a1 a2
          go_wp2_with fail
          refine (HSB.out _ _ _ T3.out).mono ?_
          rintro e w4 ⟨vb, rfl, b1, b2⟩
          obtain ⟨ab, cb, hvb⟩ := own_shape b1
          rw [← HNL.out] at hvb
          subst hvb
          have R4 := Lib.hid (AllAt.of b1)
          have R3b := Lib.hid (R3.out.on b2)
          have T4 := Lib.hid (T3.out.on b2)
          clear T3 R3 b1 b2
          go_wp2_with fail
          refine (refreqs_same aa ab k ca cb L w4 HNL.out (by omega) R3b.out R4.out).mono ?_
          rintro e w5 ⟨rfl, b5⟩
          have T5 := Lib.hid (T4.out.on b5)
          clear T4 R3b R4 b5 HSA HSB
          go_wp2_with fail
          refine (HA.out _ _ _ _ _ T5.out).mono ?_
          rintro e w6 ⟨rfl, rfl⟩
          go_wp2_with fail
          refine (HCA.out _ _ _ T5.out).mono ?_
          rintro e w6 ⟨rfl, S5, T6⟩
          clear T5 HCA
          go_wp2_with fail
          refine (HB.out _ _ _ _ _ T6.out).mono ?_
          rintro e w7 ⟨rfl, rfl⟩
          go_wp2_with fail
          refine (HCB.out _ _ _ T6.out).mono ?_
          rintro e w7 ⟨rfl, S6, T7⟩
          clear T6 HCB HB
          go_wp2
          go_loopw [17] (fun vi wr => ∃ m : Nat, m ≤ k ∧ vi = .int .i64 ((m : Int) + 1) ∧ Hid (LTwo w.heap.size w g1 g2 L L k k S5 S6 wr)) (fun vi _ => k + 1 - (intOf vi).toNat)
          case atStart => exact ⟨0, Nat.zero_le _, rfl, T7⟩
          case round =>
            clear T7
            obtain ⟨m, hm, rfl, T8⟩ := hrel
            go_wp2_with fail
            refine (HA.out _ _ _ _ _ T8.out).mono ?_
            rintro e w8 ⟨rfl, rfl⟩
            by_cases hmk : m < k
            · obtain ⟨A, hRA⟩ := HRA.out m hmk
              have HR := Lib.hid hRA
              obtain ⟨cd, vr, hcd, hvr, dt, hdt⟩ : ∃ cd vr, cd = A.code ∧ vr = A.ver ∧ ∃ dt, dt = A.data := ⟨_, _, rfl, rfl, _, rfl⟩
              rw [← hcd, ← hvr, ← hdt] at HR
              clear hRA hcd hvr hdt
              have hle : (m : Int) + 1 ≤ (k : Int) := by omega
              go_wp2_with fail
              refine (HR.out _ _ _ T8.out).1.mono ?_
              rintro e w9 ⟨ao1, cp1, rfl, n1, b9⟩
              have T9 := Lib.hid (T8.out.on b9)
              have N1 := Lib.hid n1
              clear T8 b9 n1
              obtain ⟨p1, hp1⟩ : ∃ p, p = w9.heap.size := ⟨_, rfl⟩
              obtain ⟨wB, hwB⟩ : ∃ wB, wB = w9.alloc (.cells #[.int .i64 cd, .int .i64 vr, .string dt, .slice ao1 0 cp1] 48) := ⟨_, rfl⟩
              have TB : Hid (LTwo w.heap.size w g1 g2 L L k k S5 S6 wB ∧ RepB wB p1 cd vr dt (.slice ao1 0 cp1)) := by
                rw [hwB, hp1]; exact ⟨T9.out.on ((Below.refl _ _).alloc (Nat.le_refl _) _), RepB.fresh _ _ _ _ _ _⟩
              have HP1 := Lib.hid hp1
              have HWB := Lib.hid hwB
              clear hp1 hwB T9
              go_wp2_with fail
              rw [← HWB.out, ← HP1.out]
              refine (HR.out _ _ _ TB.out.1).2.mono ?_
              rintro e wx ⟨ao2, cp2, rfl, n2, bx⟩
              have TX : Hid (LTwo w.heap.size w g1 g2 L L k k S5 S6 wx ∧ RepB wx p1 cd vr dt (.slice ao1 0 cp1)) := ⟨TB.out.1.on bx, TB.out.2.keep bx TB.out.2.lt⟩
              have N2 := Lib.hid n2
              clear TB HP1 HWB bx n2 HR
              obtain ⟨p2, hp2⟩ : ∃ p, p = wx.heap.size := ⟨_, rfl⟩
              obtain ⟨wC, hwC⟩ : ∃ wB, wB = wx.alloc (.cells #[.int .i64 cd, .int .i64 vr, .string dt, .slice ao2 0 cp2] 48) := ⟨_, rfl⟩
              have TC : Hid (LTwo w.heap.size w g1 g2 L L k k S5 S6 wC ∧ RepB wC p1 cd vr dt (.slice ao1 0 cp1) ∧ RepB wC p2 cd vr dt (.slice ao2 0 cp2)) := by
                have ha : Below wx.heap.size wx wC := by rw [hwC]; exact (Below.refl _ _).alloc (Nat.le_refl _) _
                exact ⟨TX.out.1.on ha, TX.out.2.keep ha TX.out.2.lt, by rw [hwC, hp2]; exact RepB.fresh _ _ _ _ _ _⟩
              have HP2 := Lib.hid hp2
              have HWC := Lib.hid hwC
              clear hp2 hwC TX
              go_upto_region 37 with fail
              rw [← HWC.out, ← HP2.out]
              obtain ⟨x0, x1, x2, x3⟩ := TC.out.2.1.cells
              obtain ⟨y0, y1, y2, y3⟩ := TC.out.2.2.cells
              go_wp2_with fail
              refine (same_nil cd vr dt _ _ N1.out N2.out wC).mono ?_
              rintro e wy ⟨rfl, by_⟩
              have TY := Lib.hid (TC.out.1.on by_)
              clear TC by_ x0 x1 x2 x3 y0 y1 y2 y3 HP2 HWC
              go_wp2
              go_roundw
              case rel => exact ⟨m + 1, by omega, by go_num, TY⟩
              case measure => simp [intOf]; omega
            · obtain rfl : m = k := by omega
              have hle : ¬ (m : Int) + 1 ≤ (m : Int) := by omega
              go_wp2_with fail
              refine (HSt.out _ _ _ T8.out).1.mono ?_
              obtain ⟨b1, hb1⟩ : ∃ b, b = wr.heap.size := ⟨_, rfl⟩
              rw [← hb1]
              rintro e w9 ⟨rfl, s9, b9⟩
              have T9 := Lib.hid (T8.out.on (by rw [← hb1]; exact b9))
              have S9 := Lib.hid s9
              clear hb1 s9 b9 T8
              go_wp2_with fail
              refine (HSt.out _ _ _ T9.out).2.mono ?_
              obtain ⟨b2, hb2⟩ : ∃ b, b = w9.heap.size := ⟨_, rfl⟩
              rw [← hb2]
              rintro e wA ⟨rfl, sA, bA⟩
              have TA := Lib.hid (T9.out.on (by rw [← hb2]; exact bA))
              have SA1 := Lib.hid (S9.out.on (by rw [← hb2]; exact bA))
              have SA2 := Lib.hid sA
              clear hb2 sA bA T9 S9 HSt
              have HX : Hid (∀ X u, Below wA.heap.size wA X → Below X.heap.size X u → Below wA.heap.size wA u) := fun X u hX hu => hX.trans (hu.mono hX.size)
              have HSa : Hid (∀ u, Below wA.heap.size wA u → Sto layP u b1 sv) := fun u hu => SA1.out.on hu
              have HSb : Hid (∀ u, Below wA.heap.size wA u → Sto layP u b2 sv) := fun u hu => SA2.out.on hu
              have HB2 := Lib.hid TA.out.a.bel
              clear TA SA1 SA2
              go_wp2_with fail
              refine wp_region_held_drew (S := fun u => Below wA.heap.size wA u) (by kernel_rfl) (⟨rfl, rfl, rfl, Nat.le_refl _, fun _ _ => rfl⟩) (fun hHeld => ?_)
              refine held_call 0 196 rfl rfl (by kernel_rfl) (by rfl) (fun K hK => ?_)
              simp only [Go.wp_at_zero]
              go_simp
              go_at_call 12
              (with_reducible refine (HT.out _).mono ?_)
              rintro e u1 ⟨rfl, hb⟩
              have D1 := Lib.hid (HX.out _ _ hHeld hb)
              clear hb
              first | (with_reducible refine hK.out _ _ ?_ (fun hHeld => ?_)) | (go_wp2_with fail; refine hK.out _ _ ?_ (fun hHeld => ?_))
              · exact D1.out
              clear hK K
              try simp only [Act.put, List.setIfInBounds_toArray, List.set_cons_zero, List.set_cons_succ]
              first
                | (refine held_take 1 197 (v := ?_) rfl rfl (by kernel_rfl) (by kernel_rfl) (by kernel_rfl) (fun _ _ _ h => h) (by assumption) (by rfl) ?_ ?_; rotate_left; (focus (intro w hSw; skip; go_simp <;> with_reducible rfl)))
                | refine held_pass 1 197 rfl rfl (by kernel_rfl) (by kernel_rfl) (by kernel_rfl) (fun _ _ _ h => h) (by assumption) (by rfl) ?_
              simp only [Act.put, List.setIfInBounds_toArray, List.set_cons_zero, List.set_cons_succ]
              first
                | (refine held_take 2 198 (v := ?_) rfl rfl (by kernel_rfl) (by kernel_rfl) (by kernel_rfl) (fun _ _ _ h => h) (by assumption) (by rfl) ?_ ?_; rotate_left; (focus (intro w hSw; skip; go_simp <;> with_reducible rfl)))
                | refine held_pass 2 198 rfl rfl (by kernel_rfl) (by kernel_rfl) (by kernel_rfl) (fun _ _ _ h => h) (by assumption) (by rfl) ?_
              simp only [Act.put, List.setIfInBounds_toArray, List.set_cons_zero, List.set_cons_succ]
              first
                | (refine held_take 3 199 (v := ?_) rfl rfl (by kernel_rfl) (by kernel_rfl) (by kernel_rfl) (fun _ _ _ h => h) (by assumption) (by rfl) ?_ ?_; rotate_left; (focus (intro w hSw; skip; go_simp <;> with_reducible rfl)))
                | refine held_pass 3 199 rfl rfl (by kernel_rfl) (by kernel_rfl) (by kernel_rfl) (fun _ _ _ h => h) (by assumption) (by rfl) ?_
              simp only [Act.put, List.setIfInBounds_toArray, List.set_cons_zero, List.set_cons_succ]
              first
                | (refine held_take 4 200 (v := ?_) rfl rfl (by kernel_rfl) (by kernel_rfl) (by kernel_rfl) (fun _ _ _ h => h) (by assumption) (by rfl) ?_ ?_; rotate_left; (focus (intro w hSw; skip; go_simp <;> with_reducible rfl)))
                | refine held_pass 4 200 rfl rfl (by kernel_rfl) (by kernel_rfl) (by kernel_rfl) (fun _ _ _ h => h) (by assumption) (by rfl) ?_
              simp only [Act.put, List.setIfInBounds_toArray, List.set_cons_zero, List.set_cons_succ]
              first
                | (refine held_take 5 201 (v := ?_) rfl rfl (by kernel_rfl) (by kernel_rfl) (by kernel_rfl) (fun _ _ _ h => h) (by assumption) (by rfl) ?_ ?_; rotate_left; (focus (intro w hSw; skip; go_simp <;> with_reducible rfl)))
                | refine held_pass 5 201 rfl rfl (by kernel_rfl) (by kernel_rfl) (by kernel_rfl) (fun _ _ _ h => h) (by assumption) (by rfl) ?_
              simp only [Act.put, List.setIfInBounds_toArray, List.set_cons_zero, List.set_cons_succ]
              first
                | (refine held_take 6 202 (v := ?_) rfl rfl (by kernel_rfl) (by kernel_rfl) (by kernel_rfl) (fun _ _ _ h => h) (by assumption) (by rfl) ?_ ?_; rotate_left; (focus (intro w hSw; skip; go_simp <;> with_reducible rfl)))
                | refine held_pass 6 202 rfl rfl (by kernel_rfl) (by kernel_rfl) (by kernel_rfl) (fun _ _ _ h => h) (by assumption) (by rfl) ?_
              simp only [Act.put, List.setIfInBounds_toArray, List.set_cons_zero, List.set_cons_succ]
              first
                | (refine held_take 7 203 (v := ?_) rfl rfl (by kernel_rfl) (by kernel_rfl) (by kernel_rfl) (fun _ _ _ h => h) (by assumption) (by rfl) ?_ ?_; rotate_left; (focus (intro w hSw; skip; go_simp <;> with_reducible rfl)))
                | refine held_pass 7 203 rfl rfl (by kernel_rfl) (by kernel_rfl) (by kernel_rfl) (fun _ _ _ h => h) (by assumption) (by rfl) ?_
              simp only [Act.put, List.setIfInBounds_toArray, List.set_cons_zero, List.set_cons_succ]
              first
                | (refine held_take 8 204 (v := ?_) rfl rfl (by kernel_rfl) (by kernel_rfl) (by kernel_rfl) (fun _ _ _ h => h) (by assumption) (by rfl) ?_ ?_; rotate_left; (focus (intro w hSw; skip; go_simp <;> with_reducible rfl)))
                | refine held_pass 8 204 rfl rfl (by kernel_rfl) (by kernel_rfl) (by kernel_rfl) (fun _ _ _ h => h) (by assumption) (by rfl) ?_
              simp only [Act.put, List.setIfInBounds_toArray, List.set_cons_zero, List.set_cons_succ]
              first
                | (refine held_take 9 205 (v := ?_) rfl rfl (by kernel_rfl) (by kernel_rfl) (by kernel_rfl) (fun _ _ _ h => h) (by assumption) (by rfl) ?_ ?_; rotate_left; (focus (intro w hSw; skip; go_simp <;> with_reducible rfl)))
                | refine held_pass 9 205 rfl rfl (by kernel_rfl) (by kernel_rfl) (by kernel_rfl) (fun _ _ _ h => h) (by assumption) (by rfl) ?_
              simp only [Act.put, List.setIfInBounds_toArray, List.set_cons_zero, List.set_cons_succ]
              first
                | (refine held_take 10 206 (v := ?_) rfl rfl (by kernel_rfl) (by kernel_rfl) (by kernel_rfl) (fun _ _ _ h => h) (by assumption) (by rfl) ?_ ?_; rotate_left; (focus (intro w hSw; skip; go_simp <;> with_reducible rfl)))
                | refine held_pass 10 206 rfl rfl (by kernel_rfl) (by kernel_rfl) (by kernel_rfl) (fun _ _ _ h => h) (by assumption) (by rfl) ?_
              simp only [Act.put, List.setIfInBounds_toArray, List.set_cons_zero, List.set_cons_succ]
              first
                | (refine held_take 13 209 (v := ?_) rfl rfl (by kernel_rfl) (by kernel_rfl) (by kernel_rfl) (fun _ _ _ h => h) (by assumption) (by rfl) ?_ ?_; rotate_left; (focus (intro w hSw; skip; go_simp <;> with_reducible rfl)))
                | refine held_pass 13 209 rfl rfl (by kernel_rfl) (by kernel_rfl) (by kernel_rfl) (fun _ _ _ h => h) (by assumption) (by rfl) ?_
              simp only [Act.put, List.setIfInBounds_toArray, List.set_cons_zero, List.set_cons_succ]
              refine held_call 11 207 rfl rfl (by kernel_rfl) (by rfl) (fun K hK => ?_)
              simp only [Go.wp_at_succ, Go.wp_at_zero]
              go_simp
              go_at_call 25
              (with_reducible refine (HBy.out b1 _ (HSa.out _ hHeld)).mono ?_)
              rintro e u2 ⟨ax, nx, cx, rfl, hk, hb⟩
              have D2 := Lib.hid (HX.out _ _ hHeld hb)
              have KX := Lib.hid hk
              clear hb hk
              first | (with_reducible refine hK.out _ _ ?_ (fun hHeld => ?_)) | (go_wp2_with fail; refine hK.out _ _ ?_ (fun hHeld => ?_))
              · exact D2.out
              clear hK K
              try simp only [Act.put, List.setIfInBounds_toArray, List.set_cons_zero, List.set_cons_succ]
              refine held_narrow (S' := fun u => Below wA.heap.size wA u ∧ Below u2.heap.size u2 u) (fun _ h => h.1) _ _ _ _ ?_
              have hHeld2 : (fun u => Below wA.heap.size wA u ∧ Below u2.heap.size u2 u) u2 := ⟨D2.out, Below.refl _ _⟩
              first
                | (refine held_take 12 208 (v := ?_) rfl rfl (by kernel_rfl) (by kernel_rfl) (by kernel_rfl) (fun _ _ _ h => h) (by assumption) (by rfl) ?_ ?_; rotate_left; (focus (intro w hSw; (obtain ⟨_, zb⟩ := hSw; have z3 := KX.out _ zb); go_simp <;> with_reducible rfl)))
                | refine held_pass 12 208 rfl rfl (by kernel_rfl) (by kernel_rfl) (by kernel_rfl) (fun _ _ _ h => h) (by assumption) (by rfl) ?_
              simp only [Act.put, List.setIfInBounds_toArray, List.set_cons_zero, List.set_cons_succ]
              refine held_call 14 210 rfl rfl (by kernel_rfl) (by rfl) (fun K hK => ?_)
              simp only [Go.wp_at_succ, Go.wp_at_zero]
              go_simp
              go_at_call 25
              (with_reducible refine (HBy.out b2 _ (HSb.out _ D2.out)).mono ?_)
              rintro e u3 ⟨ay, ny, cy, rfl, hk, hb⟩
              have D3 := Lib.hid (HX.out _ _ D2.out hb)
              have D4 := Lib.hid hb
              have KY := Lib.hid hk
              clear hb hk
              first | (with_reducible refine hK.out _ _ ?_ (fun hHeld => ?_)) | (go_wp2_with fail; refine hK.out _ _ ?_ (fun hHeld => ?_))
              · exact ⟨D3.out, D4.out⟩
              clear hK K
              try simp only [Act.put, List.setIfInBounds_toArray, List.set_cons_zero, List.set_cons_succ]
              refine held_narrow (S' := fun u => (Below wA.heap.size wA u ∧ Below u2.heap.size u2 u) ∧ Below u3.heap.size u3 u) (fun _ h => h.1) _ _ _ _ ?_
              have hHeld3 : (fun u => (Below wA.heap.size wA u ∧ Below u2.heap.size u2 u) ∧ Below u3.heap.size u3 u) u3 := ⟨⟨D3.out, D4.out⟩, Below.refl _ _⟩
              first
                | (refine held_take 15 211 (v := ?_) rfl rfl (by kernel_rfl) (by kernel_rfl) (by kernel_rfl) (fun _ _ _ h => h) (by assumption) (by rfl) ?_ ?_; rotate_left; (focus (intro w hSw; (obtain ⟨_, zb⟩ := hSw; have z3 := KY.out _ zb); go_simp <;> with_reducible rfl)))
                | refine held_pass 15 211 rfl rfl (by kernel_rfl) (by kernel_rfl) (by kernel_rfl) (fun _ _ _ h => h) (by assumption) (by rfl) ?_
              simp only [Act.put, List.setIfInBounds_toArray, List.set_cons_zero, List.set_cons_succ]
              first
                | (refine held_take 16 212 (v := ?_) rfl rfl (by kernel_rfl) (by kernel_rfl) (by kernel_rfl) (fun _ _ _ h => h) (by assumption) (by rfl) ?_ ?_; rotate_left; (focus (intro w hSw; (obtain ⟨_, zb⟩ := hSw; have z3 := KY.out _ zb); go_simp <;> with_reducible rfl)))
                | refine held_pass 16 212 rfl rfl (by kernel_rfl) (by kernel_rfl) (by kernel_rfl) (fun _ _ _ h => h) (by assumption) (by rfl) ?_
              simp only [Act.put, List.setIfInBounds_toArray, List.set_cons_zero, List.set_cons_succ]
              first
                | (refine held_take 17 213 (v := ?_) rfl rfl (by kernel_rfl) (by kernel_rfl) (by kernel_rfl) (fun _ _ _ h => h) (by assumption) (by rfl) ?_ ?_; rotate_left; (focus (intro w hSw; (obtain ⟨_, zb⟩ := hSw; have z3 := KY.out _ zb); go_simp <;> with_reducible rfl)))
                | refine held_pass 17 213 rfl rfl (by kernel_rfl) (by kernel_rfl) (by kernel_rfl) (fun _ _ _ h => h) (by assumption) (by rfl) ?_
              simp only [Act.put, List.setIfInBounds_toArray, List.set_cons_zero, List.set_cons_succ]
              first
                | (refine held_take 18 4 (v := ?_) rfl rfl (by kernel_rfl) (by kernel_rfl) (by kernel_rfl) (fun _ _ _ h => h) (by assumption) (by rfl) ?_ ?_; rotate_left; (focus (intro w hSw; (obtain ⟨_, zb⟩ := hSw; have z3 := KY.out _ zb); go_simp <;> with_reducible rfl)))
                | refine held_pass 18 4 rfl rfl (by kernel_rfl) (by kernel_rfl) (by kernel_rfl) (fun _ _ _ h => h) (by assumption) (by rfl) ?_
              simp only [Act.put, List.setIfInBounds_toArray, List.set_cons_zero, List.set_cons_succ]
              refine wpAnyH_done (by kernel_rfl) ?_ _
              go_wp2
              go_returns
              exact ⟨rfl, HB2.out.trans (D3.out.mono HB2.out.size)⟩

theorem walk (v : Value) (L : List ReqV) (v2 : Value) (M : List Int) (w : World) (hV : Reqs w w.heap.size v L) (hI : Ints w w.heap.size v2 M) :
    Calls Try.prog 4 #[v, v2] w fun e w' => e = .returned (.bool true) ∧ Below w.heap.size w w' := by
  have hV' := hV
  obtain ⟨ao, cap, rfl, _⟩ := hV
  obtain ⟨hat, _, hml, hms⟩ := reqs_at hV'
  have hI' := hI
  obtain ⟨ai, ci, rfl, _⟩ := hI
  exact run ao _ cap L ai _ ci M w rfl hms hat hI'

set_option maxRecDepth 100000 in
theorem lifted (os : Os) (started : os.Started) (H : Type) (enc : TypeId × Value → H) :
    ReturnsInHanded {} Try.checked os 4 .any (Rows.lineFollowsSpec.pre6 enc Try.prog Try.f4 Rows.lineFollowsRow.domain false) (Rows.lineFollowsSpec.post enc Try.prog Try.f4 false true false false) := by
  refine returnsInHanded_of_change (C := Try.checked) own started (by kernel_rfl) Try.func4
    (ChangeSpec.witness6 (enc := enc) (C := Try.checked) false ⟨#[], #[.slice none 0 0, .slice none 0 0], []⟩ 8 (by kernel_rfl) (by kernel_rfl) (by kernel_rfl) (by kernel_rfl)) ?_
  intro W base args ds gs before hval0 hW hcnd _
  have hval : ∀ (j : Nat) t v, Try.f4.params[j]? = some t → args[j]? = some v → Value.okWide Try.prog W .any base t v := hval0
  have hW' := hW
  obtain ⟨p, q, hA0, hV, rfl, hfz, hnd⟩ := hW
  have hA : DataW.TrodAll enc Try.prog W 0 (fun _ => true) true Try.f4.params.toList args.toList ds p := hA0
  rw [Try.params4] at hA hval
  obtain ⟨v0, vs0, d0, ds0, p0, q0, hargs, rfl, rfl, h0, r0⟩ := trodAll_cons hA
  obtain ⟨v1, vs1, d1, ds1, p1, q1, rfl, rfl, rfl, h1, r1⟩ := trodAll_cons r0
  obtain ⟨rfl, rfl, rfl⟩ := trodAll_nil r1
  obtain rfl : args = #[v0, v1] := by cases args; simp_all
  obtain ⟨rfl, rfl⟩ := trodVars_none hV
  obtain ⟨a0, len0, cap0, rfl⟩ := okWide_slice Try.underlying29 (hval 0 29 v0 rfl rfl)
  have k0 := h0
  have lt0 : ∀ x ∈ p0, x.block < W.heap.size := by obtain ⟨m, hm⟩ := k0; exact DataW.trod_lt m _ _ _ hm
  obtain ⟨l0, w0⟩ := reqs_open h0
  obtain ⟨a1, len1, cap1, rfl⟩ := okWide_slice Try.underlying41 (hval 1 41 v1 rfl rfl)
  have k1 := h1
  have lt1 : ∀ x ∈ p1, x.block < W.heap.size := by obtain ⟨m, hm⟩ := k1; exact DataW.trod_lt m _ _ _ hm
  obtain ⟨l1, w1⟩ := ints_open h1
  clear hA0 hval0
  refine (walk (.slice a0 len0 cap0) l0 (.slice a1 len1 cap1) l1 W w0 w1).mono fun e W' ⟨he, bel⟩ => ?_
  subst he
  exact ⟨_, rfl, _, _, _, [], _, [], hW', trodAll_mk1 (shut_bool Try.underlying4 _), (trodAll_cons_mk (Below.trod laidOut (by kernel_rfl) (of_decide_eq_true (by kernel_rfl)) k0 bel lt0) (trodAll_cons_mk (Below.trod laidOut (by kernel_rfl) (of_decide_eq_true (by kernel_rfl)) k1 bel lt1) trodAll_mk0)), rfl, bel.frame _, fun h => by cases h⟩

theorem over : Rows.lineFollowsRow.holds Try.pinned (OpenSpec.ofChange Rows.lineFollowsSpec) :=
  OpenClaim.holds_of_wide 4 Try.f4 rfl rfl rfl rfl rfl rfl rfl ⟨rfl, rfl, rfl, rfl, rfl⟩ rfl rfl rfl rfl rfl (by kernel_rfl) Try.func4 (by kernel_rfl)
    (of_decide_eq_true (by kernel_rfl)) (by unfold Func.isWrapper; first | (rw [if_pos (by decide +kernel)]; kernel_rfl) | (rw [if_neg (by decide +kernel)]; exact ⟨rfl, rfl⟩))
    (fun os started H enc _ => lifted os started H enc)
end Go.Proofs.Ytenjjgghoacboaa.LineFollows

namespace Go.Proofs.Ytenjjgghoacboaa
theorem lineFollows_holds : Rows.LineFollowsSaid := LineFollows.over
#print axioms lineFollows_holds
end Go.Proofs.Ytenjjgghoacboaa
