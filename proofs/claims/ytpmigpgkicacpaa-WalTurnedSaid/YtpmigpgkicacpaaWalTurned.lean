/-
  PROVED: casebooklaw8.WalTurned answers true and leaves its arguments as they were, for any slice of slices of bytes, any number and any byte: the row's own reading and nothing else is assumed.
-/
import Derived.Test.YtpmigpgkicacpaaWalX
import Derived.Test.YtpmigpgkicacpaaWalArgs
namespace Go.Proofs.Ytpmigpgkicacpaa.WalTurned
open Go.ChangeShapes Go.WideShapes Go.ChangeAt Go.RowKit

theorem xor_u8' (a b : UInt8) : bits .xor .u8 (a.toNat : Int) (b.toNat : Int) = (((a ^^^ b).toNat : Nat) : Int) := by
  rw [u8_xor_nat _ _ a.toNat_lt b.toNat_lt, UInt8.toNat_xor]
theorem xor_ne' (a b : UInt8) (h : b ≠ 0) : a ^^^ b ≠ a := by
  intro e
  apply h
  have : a ^^^ b = a ^^^ 0 := by rw [e, UInt8.xor_zero]
  have h2 := congrArg UInt8.toNat this
  rw [UInt8.toNat_xor, UInt8.toNat_xor, Nat.xor_comm, Nat.xor_comm a.toNat] at h2
  exact UInt8.toNat_inj.1 (xor_right_inj h2)

set_option maxRecDepth 100000 in
set_option maxHeartbeats 4000000 in
theorem walk (v : Value) (L : List (List UInt8)) (a1 : Int) (a2 : Int) (w : World) (hL : BytsAt w w.heap.size v L) (_ : (Lit.int .i64 a1).wf = true) (h2 : (Lit.int .u8 a2).wf = true) :
    Calls Try.prog 6 #[v, .int .i64 a1, .int .u8 a2] w fun e w' => e = .returned (.bool true) ∧ Below w.heap.size w w' := by
  have HT := Lib.hid (fun u => told8_any u)
  obtain ⟨X, hX⟩ : ∃ X : UInt8, a2 = (X.toNat : Int) := by
    have := bounds_u8 h2
    exact ⟨UInt8.ofNat a2.toNat, by simp; omega⟩
  subst hX
  clear h2
  have hxl := X.toNat_lt
  obtain ⟨i1, hi, hz0, hz1, hz2⟩ := info_parts info_int8
  obtain ⟨i2, gi, gz0, gz1, gz2⟩ := info_parts info_str8
  obtain ⟨ao, cap, rfl, hcap, hcm, hat⟩ := id hL
  have HAT : Hid (∀ i, i < L.length → ∃ b off a c, ao = some ⟨b, off, none⟩ ∧ b < w.heap.size ∧ w.cell? ⟨b, off + i, none⟩ = some (.slice a (L.getD i []).length c) ∧ Byt w w.heap.size (.slice a (L.getD i []).length c) (L.getD i [])) := fun i hi => by
    obtain ⟨b, off, e, hb, hc⟩ := hat (fun e => by subst e; simp at hi)
    obtain ⟨u, hu, hy⟩ := hc i hi
    obtain ⟨a, c, rfl, _⟩ := id hy
    exact ⟨b, off, a, c, e, hb, hu, hy⟩
  obtain ⟨n, hn⟩ : ∃ n, n = L.length := ⟨_, rfl⟩
  rw [← hn] at HAT ⊢
  have HN := Lib.hid hn
  clear hL hcap hcm hat hn
  by_cases hg : n < 1 ∨ 6 < n ∨ X.toNat = 0
  · rcases (show n < 1 ∨ (1 ≤ n ∧ 6 < n) ∨ (1 ≤ n ∧ n ≤ 6 ∧ X.toNat = 0) by omega) with h | ⟨h, h'⟩ | ⟨h, h', h''⟩
    · clear hg
      go_enter Try.func6, Try.ntmps6
      go_wp2_with (go_at_call 8; (with_reducible refine (HT.out _).mono ?_); rintro e w9 ⟨rfl, hb⟩; have B9 := Lib.hid hb; clear hb)
      go_returns
      exact ⟨rfl, B9.out⟩
    · clear hg
      go_enter Try.func6, Try.ntmps6
      go_wp2_with (go_at_call 8; (with_reducible refine (HT.out _).mono ?_); rintro e w9 ⟨rfl, hb⟩; have B9 := Lib.hid hb; clear hb)
      go_returns
      exact ⟨rfl, B9.out⟩
    · rw [h'']
      clear hg h'' hxl
      go_enter Try.func6, Try.ntmps6
      go_wp2_with (go_at_call 8; (with_reducible refine (HT.out _).mono ?_); rintro e w9 ⟨rfl, hb⟩; have B9 := Lib.hid hb; clear hb)
      go_returns
      exact ⟨rfl, B9.out⟩
  · have hn1 : 1 ≤ n := by omega
    have hn6 : n ≤ 6 := by omega
    have hx0 : ((X.toNat : Int) == 0) = false := by rw [beq_eq_false_iff_ne]; omega
    have HX0 : Hid (X ≠ 0) := fun e => hg (.inr (.inr (by rw [e]; rfl)))
    clear hg
    go_enter Try.func6, Try.ntmps6
    go_wp2
    go_loopw [7, 8, 9, 10] (fun vs va ve vi wr => ∃ i : Nat, i ≤ n ∧ vi = .int .i64 i ∧ vs = .string ⟨(frs (L.take i)).toArray⟩ ∧ TW w.heap.size w ve va (endCells (L.take i)) (strCells (L.take i)) wr ∧ ∀ r ∈ L.take i, 1 ≤ r.length ∧ r.length ≤ 60) (fun _ _ _ vi _ => n - (intOf vi).toNat)
    case atStart => exact ⟨0, by omega, rfl, rfl, TW.nil (Below.refl _ _) (Nat.le_refl _), by simp⟩
    case round =>
      obtain ⟨i, hin, rfl, rfl, hT, hall⟩ := hrel
      have hfl : (frs (L.take i)).length ≤ 1000 := by
        have h1 := frs_bound (L.take i) 60 fun r hr => (hall r hr).2
        have h2 : (L.take i).length ≤ 6 := by rw [List.length_take]; omega
        have h3 := Nat.mul_le_mul_right (60 + 6) h2
        omega
      have HTW := Lib.hid hT
      have HALL := Lib.hid hall
      have hbel := hT.bel
      have hsz := hT.sz
      obtain ⟨⟨ea, ec, rfl⟩, ⟨ta, tc, rfl⟩⟩ := hT.shape
      have HBEL := Lib.hid hbel
      clear hT hall hbel hx0
      by_cases hlt : i < n
      · obtain ⟨b, off, a, c, rfl, hb, hcell, hy⟩ := HAT.out i hlt
        have hcw : wr.cell? ⟨b, off + i, none⟩ = some (.slice a (L.getD i []).length c) := (HBEL.out.cell (p := ⟨b, off + i, none⟩) hb).trans hcell
        have HY := Lib.hid hy
        have HC := Lib.hid hcell
        have HR : Hid (L.take (i + 1) = L.take i ++ [L.getD i []]) := take_snoc' L i (by rw [← HN.out]; exact hlt)
        clear hcell hy
        by_cases hq : 1 ≤ (L.getD i []).length ∧ (L.getD i []).length ≤ 60
        · obtain ⟨hq1, hq2⟩ := hq
          have hadd := add_frames L i (by rw [← HN.out]; exact hlt) (by omega) (by omega)
          have hok : okR (L.getD i []) := ⟨hq1, by omega⟩
          have hE : (endCells (L.take i)).length ≤ 6 := by rw [endCells_length, List.length_take]; omega
          have hTl : (strCells (L.take i)).length ≤ 6 := by rw [strCells_length, List.length_take]; omega
          obtain ⟨s2, hs2⟩ : ∃ s2 : ByteArray, s2 = ⟨(frs (L.take (i + 1))).toArray⟩ := ⟨_, rfl⟩
          have hsz2 : ((frs (L.take (i + 1))).length : Nat) = s2.size := by rw [hs2]; exact List.size_toArray.symm
          rw [← hs2] at hadd
          have HS2 := Lib.hid hs2
          have HSZ := Lib.hid hsz2
          clear hs2 hsz2
          generalize L.getD i [] = r at hcw HY HC HR hq1 hq2 hadd hok
          have HOK := Lib.hid hok
          obtain ⟨q, hqq⟩ : ∃ q, q = r.length := ⟨_, rfl⟩
          rw [← hqq] at hcw HY HC hq1 hq2
          have HQ := Lib.hid hqq
          clear hok hqq
          go_wp2_with fail
          refine (frame_yes _ _ r wr (HY.out.keep HBEL.out) hsz HOK.out).mono ?_
          rintro e w1 ⟨fa, fc, rfl, hown, hb1⟩
          have hcv := run_conv_byt (byt_own hown (Nat.le_refl _))
          have HB1 := Lib.hid (HBEL.out.trans (hb1.mono hsz))
          have hcw1 : w1.cell? ⟨b, off + i, none⟩ = some (.slice a q c) := (HB1.out.cell (p := ⟨b, off + i, none⟩) hb).trans HC.out
          have hcr := run_conv_byt (HY.out.keep HB1.out)
          have TW1 := Lib.hid (HTW.out.on hb1)
          clear hown hb1 hcw
          have hd1 : decide ((q : Int) < 1) = false := decide_eq_false (by omega)
          have hd2 : decide (60 < (q : Int)) = false := decide_eq_false (by omega)
          have hsrc1 : Hid (Src Try.prog 1 30 (.slice (some ⟨w1.heap.size, 0, none⟩) 1 1) 1 [Value.string ⟨r.toArray⟩] (w1.alloc (.cells #[Value.string ⟨r.toArray⟩] 9))) := src_str w1 _
          go_wp2_with (at_builtin; refine wpList_append_own_src rfl (.tmp 69) (.tmp 75) 30 30 rfl w.heap.size 9 i2 (.string ⟨#[]⟩) 1 16 Try.underlying30 gi gz0 gz1 gz2 rfl _ _ _ rfl (TW1.out.alloc (.cells #[Value.string ⟨r.toArray⟩] 9)).t _ 1 [Value.string ⟨r.toArray⟩] rfl hsrc1.out ?c3 ?c4 (TW1.out.alloc (.cells #[Value.string ⟨r.toArray⟩] 9)).sz ?_)
          case c3 => unfold maxLen; omega
          case c4 => omega
          intro vx1 u1 hx1 gx1
          have T2 := Lib.hid ((TW1.out.alloc (.cells #[Value.string ⟨r.toArray⟩] 9)).growT hx1 gx1)
          obtain ⟨xa1, xc1, rfl⟩ := own_shape hx1
          clear hx1 gx1 hcv hcr hcw1
          have hsrc2 : Hid (Src Try.prog 1 35 (.slice (some ⟨u1.heap.size, 0, none⟩) 1 1) 1 [Value.int .i64 (s2.size : Int)] (u1.alloc (.cells #[Value.int .i64 (s2.size : Int)] 3))) := src_blk 35 3 Try.underlying35 (heap_alloc_new u1 _) rfl
          go_wp2_with (at_builtin; refine wpList_append_own_src rfl (.tmp 77) (.tmp 80) 35 35 rfl w.heap.size 3 i1 (.int .i64 0) 1 8 Try.underlying35 hi hz0 hz1 hz2 rfl _ _ _ rfl (T2.out.alloc _).e _ 1 [Value.int .i64 (s2.size : Int)] rfl hsrc2.out ?c3 ?c4 (T2.out.alloc _).sz ?_)
          case c3 => unfold maxLen; omega
          case c4 => omega
          intro vx2 u2 hx2 gx2
          have T3 := Lib.hid ((T2.out.alloc (.cells #[Value.int .i64 (s2.size : Int)] 3)).growE hx2 gx2)
          obtain ⟨xa2, xc2, rfl⟩ := own_shape hx2
          clear hx2 gx2 hadd
          go_wp2
          go_roundw
          case rel =>
            have hT := T3.out
            rw [← HSZ.out] at hT
            refine ⟨i + 1, by omega, by go_num, by rw [HS2.out], ?_, ?_⟩
            · rw [HR.out, endCells_snoc, strCells_snoc, ← HR.out]
              exact hT
            · rw [HR.out]
              intro x hx
              rcases List.mem_append.1 hx with hx | hx
              · exact HALL.out x hx
              · rw [List.mem_singleton.1 hx, ← HQ.out]; exact ⟨hq1, hq2⟩
          case measure => simp [intOf]; omega
        · have HYF := Lib.hid (fun (u : World) (hu : Below w.heap.size w u) => frame_some _ _ _ u (HY.out.keep hu) hu.size)
          generalize (L.getD i []).length = q at hcw HY HC HYF hq
          go_wp2_with fail
          refine (HYF.out _ HBEL.out).mono ?_
          rintro e w1 ⟨fa, fn, fc, x, rfl, hb1⟩
          have B1 := Lib.hid (HBEL.out.trans (hb1.mono hsz))
          have hcw1 : w1.cell? ⟨b, off + i, none⟩ = some (.slice a q c) := (B1.out.cell (p := ⟨b, off + i, none⟩) hb).trans HC.out
          have hs1 := B1.out.size
          clear hb1 hcw
          rcases (show q < 1 ∨ (1 ≤ q ∧ 60 < q) by omega) with hq' | ⟨hq', hq''⟩
          all_goals
            clear hq
            go_wp2_with (go_at_call 8; (with_reducible refine (HT.out _).mono ?_); rintro e w9 ⟨rfl, hb⟩; have B9 := Lib.hid hb; clear hb)
            go_returns
            exact ⟨rfl, B1.out.trans (B9.out.mono hs1)⟩
      · obtain rfl : i = n := by omega
        have htk : L.take i = L := by rw [HN.out]; exact List.take_length
        rw [htk] at HTW HALL
        have hfe : (endCells (L.take i)).length = i := by rw [htk, endCells_length]; exact HN.out.symm
        have hft : (strCells (L.take i)).length = i := by rw [htk, strCells_length]; exact HN.out.symm
        rw [hfe, hft]
        rw [htk] at hfe hft
        rw [hfe, hft] at HTW
        obtain ⟨s2, hs2⟩ : ∃ s2 : ByteArray, s2 = ⟨(frs (L.take i)).toArray⟩ := ⟨_, rfl⟩
        have hsz2 : s2.size = (frs L).length := by rw [hs2, htk]; exact List.size_toArray
        have hss : s2 = ⟨(frs L).toArray⟩ := by rw [hs2, htk]
        rw [← hs2]
        rw [htk] at hfl
        have HSZ := Lib.hid hsz2
        have HSS := Lib.hid hss
        have hpos : 0 < s2.size := by rw [hsz2]; exact frs_pos L (by rw [← HN.out]; omega)
        have HOK : Hid (∀ r ∈ L, okR r) := fun r hr => by
          have := HALL.out r hr
          exact ⟨this.1, by omega⟩
        have HE : Hid (∀ m, m < i → ∃ g, ea = some ⟨g, 0, none⟩ ∧ g < wr.heap.size ∧ wr.cell? ⟨g, m, none⟩ = some (.int .i64 (((frs (L.take (m + 1))).length : Nat) : Int))) := fun m hm => by
          have h := HTW.out.e
          rcases h.2 with ⟨hz, _⟩ | ⟨g, cp, cur, he, _, hg, _⟩
          · simp at hz; omega
          · simp only [Value.slice.injEq] at he
            obtain ⟨rfl, _, _⟩ := he
            have := h.cells (g := g) rfl m _ (endCells_get L m (by rw [← HN.out]; exact hm))
            rw [Addr.add_lit, Nat.zero_add] at this
            exact ⟨g, rfl, lt_of_block hg, this⟩
        have HST : Hid (StrsAt wr wr.heap.size (.slice ta i tc) L) := strs_own HTW.out.t
        have HTC : Hid (i ≤ tc) := by
          obtain ⟨_, _, he, hle, _⟩ := HST.out
          simp only [Value.slice.injEq] at he
          rw [he.2.1, he.2.2]
          exact hle
        obtain ⟨A, hA⟩ : ∃ A : Nat, IntKind.u64.wrap a1 = (A : Int) := ⟨(IntKind.u64.wrap a1).toNat, by rw [IntKind.wrap_u64]; omega⟩
        have hz : ((s2.size : Int) == 0) = false := by rw [beq_eq_false_iff_ne]; omega
        have hk : (A : Int) % (s2.size : Int) = ((A % s2.size : Nat) : Int) := (Int.natCast_emod A s2.size).symm
        have hkl : A % s2.size < s2.size := Nat.mod_lt A hpos
        generalize A % s2.size = k at hk hkl
        have hs2l : s2.size ≤ 1000 := by omega
        have wf1 : IntKind.u64.wrap (s2.size : Int) = (s2.size : Int) := IntWalk.u64_in _ (by omega)
        have wf2 : IntKind.i64.wrap (k : Int) = (k : Int) := IntWalk.i64_in _ (by omega)
        have hkf : k < (frs L).length := by omega
        obtain ⟨q1, x1, hx1, hb1, hf1, hbel1⟩ := conv_bytes wr (frs L) (by unfold maxLen; omega)
        rw [← hss] at hx1
        have hc1 : x1.cell? ⟨wr.heap.size, k, none⟩ = some (.int .u8 ((frs L).getD k 0).toNat) := by
          obtain ⟨_, _, he, _, _, _, h4⟩ := id hb1
          simp only [Value.slice.injEq] at he
          obtain ⟨rfl, _, _⟩ := he
          obtain ⟨b', off', he, _, hc⟩ := h4 (fun e => by rw [e] at hkf; simp at hkf)
          simp only [Option.some.injEq, Addr.mk.injEq, and_true] at he
          obtain ⟨rfl, rfl⟩ := he
          have := hc k hkf
          rwa [Nat.zero_add] at this
        have hfz := hf1 k hkf
        have hxo := xor_u8' ((frs L).getD k 0) X
        have HNE := Lib.hid (xor_ne' ((frs L).getD k 0) X HX0.out)
        have HPUT := Lib.hid (byt_put hb1 hkf ((frs L).getD k 0 ^^^ X))
        rw [Nat.zero_add] at HPUT
        have hby := ((frs L).getD k 0).toNat_lt
        obtain ⟨y, hy⟩ : ∃ y, y = (frs L).getD k 0 ^^^ X := ⟨_, rfl⟩
        obtain ⟨z, hz'⟩ : ∃ z, z = (frs L).getD k 0 := ⟨_, rfl⟩
        rw [← hy] at hxo HNE HPUT
        rw [← hz'] at hc1 hxo HNE hby
        have HZ := Lib.hid hz'
        have HX1 := Lib.hid hbel1
        have hlen1 : (frs L).length = s2.size := HSZ.out.symm
        rw [hlen1] at hx1 HPUT
        have hlx : wr.heap.size < x1.heap.size := World.block_lt_of_cell? _ _ hc1
        obtain ⟨y0, hy0⟩ : ∃ y0, y0 = x1.setCell ⟨wr.heap.size, k, none⟩ (.int .u8 y.toNat) := ⟨_, rfl⟩
        have HY0 : Hid (Below wr.heap.size wr y0) := by
          rw [hy0]
          exact HX1.out.setCell (p := ⟨wr.heap.size, k, none⟩) (Nat.le_refl _) _
        rw [← hy0] at HPUT
        have HSY : Hid (y0.heap.size = x1.heap.size) := by show _ = _; rw [hy0]; simp [World.setCell]
        clear htk hfe hft hss hsz2 hfl hlt hb1 hf1 hbel1 hy hz' hlen1 hs2 hkf
        go_wp2_with fail
        all_goals first
          | (exfalso; omega)
          | skip
        rw [← hy0]
        clear hc1 hfz hx1 hxo hz hk wf1 wf2 hy0
        go_loop [15] (fun vw => ∃ m : Nat, m ≤ i ∧ vw = .int .i64 m ∧ (frs (L.take m)).length ≤ k) (fun vw => i - (intOf vw).toNat)
        case atStart => exact ⟨0, by omega, rfl, by simp [frs_nil]⟩
        case round =>
          obtain ⟨m, hm, rfl, hmk⟩ := hrel
          by_cases hc : m < i ∧ (frs (L.take (m + 1))).length ≤ k
          · obtain ⟨hc1, hc2⟩ := hc
            obtain ⟨g, rfl, hgl, hg0⟩ := HE.out m hc1
            have hg : y0.cell? ⟨g, m, none⟩ = some (.int .i64 (((frs (L.take (m + 1))).length : Nat) : Int)) := (HY0.out.cell (p := ⟨g, m, none⟩) hgl).trans hg0
            clear hg0
            generalize hF : (frs (L.take (m + 1))).length = F at hc2 hg
            have HF := Lib.hid hF
            clear hF
            go_wp2
            go_round
            case rel => exact ⟨m + 1, by omega, by go_num, by rw [HF.out]; exact hc2⟩
            case measure => simp [intOf]; omega
          · have hmi : m < i := by
              rcases Nat.lt_or_ge m i with h | h
              · exact h
              · exfalso
                rw [List.take_of_length_le (by rw [← HN.out]; exact h), ← HSZ.out] at hmk
                omega
            have hkF : k < (frs (L.take (m + 1))).length := by omega
            obtain ⟨t1, t2, t3⟩ := turned_in L k m y (by rw [← HN.out]; exact hmi) hmk hkF
            have hokr : okR (L.getD m []) := HOK.out _ (by rw [show L.getD m [] = L[m]'(by rw [← HN.out]; exact hmi) by simp [List.getD, show m < L.length by rw [← HN.out]; exact hmi]]; exact List.getElem_mem _)
            generalize L.getD m [] = r at t1 t2 t3 hokr
            obtain ⟨F0, hF0⟩ : ∃ F0, F0 = (frs (L.take m)).length := ⟨_, rfl⟩
            obtain ⟨ip, hip⟩ : ∃ ip, ip = k - (frs (L.take m)).length := ⟨_, rfl⟩
            rw [← hip] at t1 t2 t3
            rw [← hF0] at hip hmk
            have HKIP : Hid (k = F0 + ip) := by show _ = _; omega
            have hyr : y ≠ (frm r).getD ip 0 := by rw [← t2, ← HZ.out]; exact HNE.out
            have HB : Hid (Byt y0 y0.heap.size (.slice (some ⟨wr.heap.size, 0, none⟩) s2.size q1) ((frs L).set k y)) := by
              show Byt _ _ _ _
              rw [HSY.out]
              exact HPUT.out
            have hbl : ((frs L).set k y).length ≤ 1000000 := by rw [List.length_set, ← HSZ.out]; omega
            have hML : (L.take m).length = m := by rw [List.length_take, ← HN.out]; omega
            have hsl := fun u => run_to 30 Try.underlying30 size_str ta i tc m m rfl (Nat.le_trans hm HTC.out) u
            have hsl1 := fun u => (hsl u).1
            have hsl2 := fun u => (hsl u).2
            obtain ⟨g, rfl, hgl, hg0⟩ := HE.out m hmi
            have hg : y0.cell? ⟨g, m, none⟩ = some (.int .i64 (((frs (L.take (m + 1))).length : Nat) : Int)) := (HY0.out.cell (p := ⟨g, m, none⟩) hgl).trans hg0
            generalize (frs (L.take (m + 1))).length = F2 at hkF hg hg0
            have hs0 := HY0.out.size
            have HRd1 : Hid (2 ≤ ip → Calls Try.prog 11 #[.slice (some ⟨wr.heap.size, 0, none⟩) s2.size q1] y0 fun e u' => ∃ v', e = .returned (.tuple #[v', .int .i64 (F0 : Int)]) ∧ (∃ a c, v' = .slice a m c) ∧ Hid (BytsAt u' u'.heap.size v' (L.take m)) ∧ Below y0.heap.size y0 u') := fun h2 => by
              have h := read_frames _ _ (L.take m) _ y0 HB.out t3 (firstR_turned r _ hokr ip h2 t1 y hyr) (fun x hx => HOK.out x (List.mem_of_mem_take hx)) hbl
              rw [hML, ← hF0] at h
              exact h
            have HRd2 : Hid (Calls Try.prog 11 #[.slice (some ⟨wr.heap.size, 0, none⟩) s2.size q1] y0 fun e u' => ∃ (M : List (List UInt8)) (mm : Nat) (v' : Value), e = .returned (.tuple #[v', .int .i64 mm]) ∧ (∃ a c, v' = .slice a M.length c) ∧ m ≤ M.length ∧ M.length ≤ 1000000 ∧ Hid (M.take m = L.take m) ∧ Hid (Rds ((frs L).set k y) M mm) ∧ Hid (BytsAt u' u'.heap.size v' M) ∧ Below y0.heap.size y0 u') := by
              refine (wread_any _ _ _ y0 HB.out (Nat.le_refl _) (by omega)).mono ?_
              rintro e u' ⟨M, mm, hr, v', rfl, h1, h2⟩
              have hcnt : M.length ≤ 1000000 := by
                have h5 := frs_many M hr.ok
                obtain ⟨rest, he, _⟩ := hr.split
                have h6 := congrArg List.length he
                rw [List.length_append] at h6
                omega
              have hah : ∃ N, M = L.take m ++ N := by
                have := hr
                rw [t3] at this
                exact Rds.ahead (fun x hx => HOK.out x (List.mem_of_mem_take hx)) this
              obtain ⟨N, hN⟩ := hah
              refine ⟨M, mm, v', rfl, h1.shape, by rw [hN, List.length_append, hML]; omega, hcnt, ?_, hr, h1.at, h2⟩
              show M.take m = L.take m
              rw [hN, List.take_append_of_le_length (by rw [hML]; exact Nat.le_refl _), List.take_of_length_le (by rw [hML]; exact Nat.le_refl _)]
            have HRf : Hid (∀ u, Calls Try.prog 12 #[.string ⟨((frs L).set k y).toArray⟩] u fun e u' => ∃ (M : List (List UInt8)) (mm : Nat) (v' : Value), e = .returned (.tuple #[v', .int .i64 mm]) ∧ (∃ a c, v' = .slice a M.length c) ∧ Hid (Rds ((frs L).set k y) M mm) ∧ Hid (StrsAt u' u'.heap.size v' M) ∧ Below u.heap.size u u') := fun u => by
              refine (refread_any ⟨((frs L).set k y).toArray⟩ u (by show ((frs L).set k y).toArray.size ≤ _; rw [List.size_toArray]; exact hbl)).mono ?_
              rintro e u' ⟨M, mm, hr, v', rfl, h1, h2⟩
              exact ⟨M, mm, v', rfl, own_shape h1, hr, strs_own h1, h2⟩
            have HIN : Hid (∀ p, m = p + 1 → y0.cell? ⟨g, p, none⟩ = some (.int .i64 (F0 : Int))) := fun p hp => by
              obtain ⟨g', hg', hgl', hgp⟩ := HE.out p (by omega)
              simp only [Option.some.injEq, Addr.mk.injEq, and_true] at hg'
              subst hg'
              rw [(HY0.out.cell (p := ⟨g, p, none⟩) hgl).trans hgp, hF0, hp]
            have HF0 : Hid (m = 0 → F0 = 0) := fun h => by rw [hF0, h]; rfl
            clear hc hmk t1 t2 t3 hokr hF0 hip hyr hbl hML hsl hg0
            have GL := Lib.hid hgl
            by_cases h0 : m = 0
            · obtain rfl : F0 = 0 := HF0.out h0
              subst h0
              have hki : k = ip := by have := HKIP.out; omega
              subst hki
              clear HKIP
              by_cases h2 : 2 ≤ k
              · go_wp2_with fail
                (with_reducible refine (HRd1.out h2).mono ?_)
                rintro e y1 ⟨v1, rfl, ⟨va1, vc1, rfl⟩, Y1, hb1⟩
                have D1 := Lib.hid (HY0.out.trans (hb1.mono hs0))
                have P1 := Lib.hid hb1
                have C1 : Hid (0 ≤ vc1) := by
                  obtain ⟨_, _, he, hle, _⟩ := Y1.out
                  simp only [Value.slice.injEq] at he
                  rw [he.2.1, he.2.2]
                  exact hle
                have hta := fun u => run_to 27 Try.underlying27 size_bytes va1 0 vc1 0 0 rfl C1.out u
                have hta1 := fun u => (hta u).1
                have hta2 := fun u => (hta u).2
                clear hb1 hta
                have HTX : Hid (∀ q, Calls Try.prog 13 #[.slice va1 0 vc1, .slice ta 0 tc] (y1.drewN q) fun e w' => e = .returned (.bool true) ∧ ∃ n, w' = (y1.drewN q).drewN n) := fun q =>
                  texts_yes _ _ y1.heap.size (L.take 0) (y1.drewN q) (Y1.out.keep ⟨rfl, rfl, rfl, Nat.le_refl _, fun _ _ => rfl⟩) ((((HST.out.keep D1.out).mono D1.out.size).to 0 (by rw [← HN.out]; exact hm)).keep ⟨rfl, rfl, rfl, Nat.le_refl _, fun _ _ => rfl⟩) (by rw [List.length_take]; have := HN.out; omega)
                go_wp2_with fail
                go_quiet ((go_at_call 13; exact Calls.quiet_of (HTX.out _)))
                clear hta1 hta2 hsl1 hsl2
                go_wp2_with fail
                refine (HT.out _).mono ?_
                rintro e y3 ⟨rfl, hb3⟩
                have D3 := Lib.hid (below_drewN' hb3)
                clear hb3
                go_wp2
                go_returns
                exact ⟨rfl, HBEL.out.trans ((D1.out.trans (D3.out.mono D1.out.size)).mono hsz)⟩
              · go_wp2_with fail
                (with_reducible refine HRd2.out.mono ?_)
                rintro e y1 ⟨M, mm, v1, rfl, ⟨va1, vc1, rfl⟩, hmM, hMl, TK, RDS, Y1, hb1⟩
                have D1 := Lib.hid (HY0.out.trans (hb1.mono hs0))
                have P1 := Lib.hid hb1
                have C1 : Hid (0 ≤ vc1) := by
                  obtain ⟨_, _, he, hle, _⟩ := Y1.out
                  simp only [Value.slice.injEq] at he
                  have : M.length ≤ vc1 := by rw [he.2.2]; exact hle
                  exact Nat.le_trans hmM this
                have hta := fun u => run_to 27 Try.underlying27 size_bytes va1 M.length vc1 0 0 rfl C1.out u
                have hta1 := fun u => (hta u).1
                have hta2 := fun u => (hta u).2
                clear hb1 hta
                have HTX : Hid (∀ q, Calls Try.prog 13 #[.slice va1 0 vc1, .slice ta 0 tc] (y1.drewN q) fun e w' => e = .returned (.bool true) ∧ ∃ n, w' = (y1.drewN q).drewN n) := fun q => by
                  have h := Y1.out.to 0 hmM
                  rw [TK.out] at h
                  exact texts_yes _ _ y1.heap.size (L.take 0) (y1.drewN q) (h.keep ⟨rfl, rfl, rfl, Nat.le_refl _, fun _ _ => rfl⟩) ((((HST.out.keep D1.out).mono D1.out.size).to 0 (by rw [← HN.out]; exact hm)).keep ⟨rfl, rfl, rfl, Nat.le_refl _, fun _ _ => rfl⟩) (by rw [List.length_take]; have := HN.out; omega)
                go_wp2_with fail
                go_quiet ((go_at_call 13; exact Calls.quiet_of (HTX.out _)))
                clear hta1 hta2 hsl1 hsl2
                have hk2 := run_conv_byt ((HB.out.keep P1.out).keep (⟨rfl, rfl, rfl, Nat.le_refl _, fun _ _ => rfl⟩ : Below y0.heap.size y1 (y1.drewN nq)))
                go_wp2_with fail
                refine (HRf.out _).mono ?_
                rintro e y2 ⟨M2, mm2, v2, rfl, ⟨va2, vc2, rfl⟩, RDS2, Y2, hb2⟩
                obtain ⟨rfl, rfl⟩ := RDS.out.unique RDS2.out
                have D2 := Lib.hid (below_drewN' hb2)
                clear hb2 hk2
                go_wp2_with fail
                refine (HT.out _).mono ?_
                rintro e y3 ⟨rfl, hb3⟩
                have D3 := Lib.hid hb3
                clear hb3
                have G1 := Lib.hid (texts_yes (.slice va1 M.length vc1) (.slice va2 M.length vc2) y2.heap.size M y3 (((Y1.out.keep D2.out).mono D2.out.size).keep D3.out) (Y2.out.keep D3.out) hMl)
                go_wp2_with fail
                refine G1.out.mono ?_
                rintro e y4 ⟨rfl, n4, rfl⟩
                have G2 := Lib.hid (refcrc_any ⟨#[]⟩ (y3.drewN n4) (by decide))
                go_wp2_with fail
                refine G2.out.mono ?_
                rintro e y5 ⟨rfl, rfl⟩
                go_wp2
                go_returns
                exact ⟨rfl, (HBEL.out.trans ((D1.out.trans ((D2.out.trans (D3.out.mono D2.out.size)).mono D1.out.size)).mono hsz)).trans ⟨rfl, rfl, rfl, Nat.le_refl _, fun _ _ => rfl⟩⟩
            · obtain ⟨p, hp⟩ : ∃ p, m = p + 1 := ⟨m - 1, by omega⟩
              have hc0 := HIN.out p hp
              have HC0 := Lib.hid hc0
              have hm1 : (m : Int) - 1 = (p : Int) := by omega
              have hwm : IntKind.i64.wrap ((m : Int) - 1) = (p : Int) := by rw [hm1]; exact IntWalk.i64_in _ (by omega)
              have hpi : p < i := by omega
              have hmp : 0 < m := by omega
              have hm0 : ((m : Int) == 0) = false := by rw [beq_eq_false_iff_ne]; omega
              have hsub : (k : Int) - (F0 : Int) = (ip : Int) := by have := HKIP.out; omega
              have hwk : IntKind.i64.wrap ((k : Int) - (F0 : Int)) = (ip : Int) := by rw [hsub]; exact IntWalk.i64_in _ (by omega)
              clear h0 hp
              by_cases h2 : 2 ≤ ip
              · go_wp2_with fail
                (with_reducible refine (HRd1.out h2).mono ?_)
                rintro e y1 ⟨v1, rfl, ⟨va1, vc1, rfl⟩, Y1, hb1⟩
                have D1 := Lib.hid (HY0.out.trans (hb1.mono hs0))
                have P1 := Lib.hid hb1
                have C1 : Hid (m ≤ vc1) := by
                  obtain ⟨_, _, he, hle, _⟩ := Y1.out
                  simp only [Value.slice.injEq] at he
                  rw [he.2.1, he.2.2]
                  exact hle
                have hta := fun u => run_to 27 Try.underlying27 size_bytes va1 m vc1 m m rfl C1.out u
                have hta1 := fun u => (hta u).1
                have hta2 := fun u => (hta u).2
                clear hb1 hta
                have HTX : Hid (∀ q, Calls Try.prog 13 #[.slice va1 m vc1, .slice ta m tc] (y1.drewN q) fun e w' => e = .returned (.bool true) ∧ ∃ n, w' = (y1.drewN q).drewN n) := fun q =>
                  texts_yes _ _ y1.heap.size (L.take m) (y1.drewN q) (Y1.out.keep ⟨rfl, rfl, rfl, Nat.le_refl _, fun _ _ => rfl⟩) ((((HST.out.keep D1.out).mono D1.out.size).to m (by rw [← HN.out]; exact hm)).keep ⟨rfl, rfl, rfl, Nat.le_refl _, fun _ _ => rfl⟩) (by rw [List.length_take]; have := HN.out; omega)
                go_wp2_with fail
                go_quiet ((go_at_call 13; exact Calls.quiet_of (HTX.out _)))
                clear hta1 hta2 hsl1 hsl2
                go_wp2_with fail
                refine (HT.out _).mono ?_
                rintro e y3 ⟨rfl, hb3⟩
                have D3 := Lib.hid (below_drewN' hb3)
                clear hb3
                have hcp : y3.cell? ⟨g, p, none⟩ = some (.int .i64 (F0 : Int)) := ((P1.out.trans (D3.out.mono P1.out.size)).cell (p := ⟨g, p, none⟩) (Nat.lt_of_lt_of_le GL.out hs0)).trans HC0.out
                go_wp2
                go_returns
                exact ⟨rfl, HBEL.out.trans ((D1.out.trans (D3.out.mono D1.out.size)).mono hsz)⟩
              · go_wp2_with fail
                (with_reducible refine HRd2.out.mono ?_)
                rintro e y1 ⟨M, mm, v1, rfl, ⟨va1, vc1, rfl⟩, hmM, hMl, TK, RDS, Y1, hb1⟩
                have D1 := Lib.hid (HY0.out.trans (hb1.mono hs0))
                have P1 := Lib.hid hb1
                have C1 : Hid (m ≤ vc1) := by
                  obtain ⟨_, _, he, hle, _⟩ := Y1.out
                  simp only [Value.slice.injEq] at he
                  have : M.length ≤ vc1 := by rw [he.2.2]; exact hle
                  exact Nat.le_trans hmM this
                have hta := fun u => run_to 27 Try.underlying27 size_bytes va1 M.length vc1 m m rfl C1.out u
                have hta1 := fun u => (hta u).1
                have hta2 := fun u => (hta u).2
                clear hb1 hta
                have HTX : Hid (∀ q, Calls Try.prog 13 #[.slice va1 m vc1, .slice ta m tc] (y1.drewN q) fun e w' => e = .returned (.bool true) ∧ ∃ n, w' = (y1.drewN q).drewN n) := fun q => by
                  have h := Y1.out.to m hmM
                  rw [TK.out] at h
                  exact texts_yes _ _ y1.heap.size (L.take m) (y1.drewN q) (h.keep ⟨rfl, rfl, rfl, Nat.le_refl _, fun _ _ => rfl⟩) ((((HST.out.keep D1.out).mono D1.out.size).to m (by rw [← HN.out]; exact hm)).keep ⟨rfl, rfl, rfl, Nat.le_refl _, fun _ _ => rfl⟩) (by rw [List.length_take]; have := HN.out; omega)
                go_wp2_with fail
                go_quiet ((go_at_call 13; exact Calls.quiet_of (HTX.out _)))
                clear hta1 hta2 hsl1 hsl2
                have hk2 := run_conv_byt ((HB.out.keep P1.out).keep (⟨rfl, rfl, rfl, Nat.le_refl _, fun _ _ => rfl⟩ : Below y0.heap.size y1 (y1.drewN nq)))
                go_wp2_with fail
                refine (HRf.out _).mono ?_
                rintro e y2 ⟨M2, mm2, v2, rfl, ⟨va2, vc2, rfl⟩, RDS2, Y2, hb2⟩
                obtain ⟨rfl, rfl⟩ := RDS.out.unique RDS2.out
                have D2 := Lib.hid (below_drewN' hb2)
                clear hb2 hk2
                go_wp2_with fail
                refine (HT.out _).mono ?_
                rintro e y3 ⟨rfl, hb3⟩
                have D3 := Lib.hid hb3
                clear hb3
                have G1 := Lib.hid (texts_yes (.slice va1 M.length vc1) (.slice va2 M.length vc2) y2.heap.size M y3 (((Y1.out.keep D2.out).mono D2.out.size).keep D3.out) (Y2.out.keep D3.out) hMl)
                go_wp2_with fail
                refine G1.out.mono ?_
                rintro e y4 ⟨rfl, n4, rfl⟩
                have G2 := Lib.hid (refcrc_any ⟨#[]⟩ (y3.drewN n4) (by decide))
                go_wp2_with fail
                refine G2.out.mono ?_
                rintro e y5 ⟨rfl, rfl⟩
                go_wp2
                go_returns
                exact ⟨rfl, (HBEL.out.trans ((D1.out.trans ((D2.out.trans (D3.out.mono D2.out.size)).mono D1.out.size)).mono hsz)).trans ⟨rfl, rfl, rfl, Nat.le_refl _, fun _ _ => rfl⟩⟩

set_option maxRecDepth 100000 in
theorem lifted (os : Os) (started : os.Started) (H : Type) (enc : TypeId × Value → H) :
    ReturnsInHanded {} Try.checked os 6 .any (Rows.walTurnedSpec.pre6 enc Try.prog Try.f6 Rows.walTurnedRow.domain false) (Rows.walTurnedSpec.post enc Try.prog Try.f6 false true false false) := by
  refine returnsInHanded_of_change (C := Try.checked) own started (by kernel_rfl) Try.func6
    (ChangeSpec.witness6 (enc := enc) (C := Try.checked) false ⟨#[], #[.slice none 0 0, .int .i64 0, .int .u8 0], []⟩ 8 (by kernel_rfl) (by kernel_rfl) (by kernel_rfl) (by kernel_rfl)) ?_
  intro W base args ds gs before hval0 hW hcnd _
  have hval : ∀ (j : Nat) t v, Try.f6.params[j]? = some t → args[j]? = some v → Value.okWide Try.prog W .any base t v := hval0
  have hW' := hW
  obtain ⟨p, q, hA0, hV, rfl, hfz, hnd⟩ := hW
  have hA : DataW.TrodAll enc Try.prog W 0 (fun _ => true) true Try.f6.params.toList args.toList ds p := hA0
  rw [Try.params6] at hA hval
  obtain ⟨v0, vs0, d0, ds0, p0, q0, hargs, rfl, rfl, h0, r0⟩ := trodAll_cons hA
  obtain ⟨v1, vs1, d1, ds1, p1, q1, rfl, rfl, rfl, h1, r1⟩ := trodAll_cons r0
  obtain ⟨v2, vs2, d2, ds2, p2, q2, rfl, rfl, rfl, h2, r2⟩ := trodAll_cons r1
  obtain ⟨rfl, rfl, rfl⟩ := trodAll_nil r2
  obtain rfl : args = #[v0, v1, v2] := by cases args; simp_all
  obtain ⟨rfl, rfl⟩ := trodVars_none hV
  obtain ⟨a0, len0, cap0, rfl⟩ := okWide_slice Try.underlying27 (hval 0 27 v0 rfl rfl)
  have k0 := h0
  have lt0 : ∀ x ∈ p0, x.block < W.heap.size := by obtain ⟨m, hm⟩ := k0; exact DataW.trod_lt m _ _ _ hm
  obtain ⟨l0, w0⟩ := bytess_open h0
  obtain ⟨a1, rfl, rfl, rfl, w1⟩ := open_int Try.underlying3 (hval 1 3 v1 rfl rfl) h1
  obtain ⟨a2, rfl, rfl, rfl, w2⟩ := open_int Try.underlying5 (hval 2 5 v2 rfl rfl) h2
  clear hA0 hval0
  refine (walk (.slice a0 len0 cap0) l0 a1 a2 W w0 w1 w2).mono fun e W' ⟨he, bel⟩ => ?_
  subst he
  exact ⟨_, rfl, _, _, _, [], _, [], hW', trodAll_mk1 (shut_bool Try.underlying4 _), (trodAll_cons_mk (Below.trod laidOut (by kernel_rfl) (of_decide_eq_true (by kernel_rfl)) k0 bel lt0) (trodAll_cons_mk (shut_int Try.underlying3 w1) (trodAll_cons_mk (shut_int Try.underlying5 w2) trodAll_mk0))), rfl, bel.frame _, fun h => by cases h⟩

theorem over : Rows.walTurnedRow.holds Try.pinned (OpenSpec.ofChange Rows.walTurnedSpec) :=
  OpenClaim.holds_of_wide 6 Try.f6 rfl rfl rfl rfl rfl rfl rfl ⟨rfl, rfl, rfl, rfl, rfl⟩ rfl rfl rfl rfl rfl (by kernel_rfl) Try.func6 (by kernel_rfl)
    (of_decide_eq_true (by kernel_rfl)) (by unfold Func.isWrapper; first | (rw [if_pos (by decide +kernel)]; kernel_rfl) | (rw [if_neg (by decide +kernel)]; exact ⟨rfl, rfl⟩))
    (fun os started H enc _ => lifted os started H enc)
end Go.Proofs.Ytpmigpgkicacpaa.WalTurned

namespace Go.Proofs.Ytpmigpgkicacpaa
theorem walTurned_holds : Rows.WalTurnedSaid := WalTurned.over
#print axioms walTurned_holds
end Go.Proofs.Ytpmigpgkicacpaa
