/-
  PROVED: casebooklaw8.WalBack answers true and leaves its arguments as they were, for any slice of slices of bytes and any number: the row's own reading and nothing else is assumed.
-/
import Derived.Test.YtpmigpgkicacpaaWalX
import Derived.Test.YtpmigpgkicacpaaWalArgs
namespace Go.Proofs.Ytpmigpgkicacpaa.WalBack
open Go.ChangeShapes Go.WideShapes Go.ChangeAt Go.RowKit

set_option maxRecDepth 100000 in
set_option maxHeartbeats 4000000 in
theorem walk (v : Value) (L : List (List UInt8)) (a1 : Int) (w : World) (hL : BytsAt w w.heap.size v L) (_ : (Lit.int .i64 a1).wf = true) :
    Calls Try.prog 4 #[v, .int .i64 a1] w fun e w' => e = .returned (.bool true) ∧ Below w.heap.size w w' := by
  have HT := Lib.hid (fun u => told8_any u)
  obtain ⟨i1, hi, hz0, hz1, hz2⟩ := info_parts info_int8
  obtain ⟨i2, gi, gz0, gz1, gz2⟩ := info_parts info_str8
  obtain ⟨ao, cap, rfl, hcap, hcm, hat⟩ := id hL
  have HAT : Hid (∀ i, i < L.length → ∃ b off a c, ao = some ⟨b, off, none⟩ ∧ b < w.heap.size ∧ w.cell? ⟨b, off + i, none⟩ = some (.slice a (L.getD i []).length c) ∧ Byt w w.heap.size (.slice a (L.getD i []).length c) (L.getD i [])) := fun i hi => by
    obtain ⟨b, off, e, hb, hc⟩ := hat (fun e => by subst e; simp at hi)
    obtain ⟨u, hu, hy⟩ := hc i hi
    obtain ⟨a, c, rfl, _⟩ := id hy
    exact ⟨b, off, a, c, e, hb, hu, hy⟩
  have HCAP := Lib.hid hcap
  obtain ⟨n, hn⟩ : ∃ n, n = L.length := ⟨_, rfl⟩
  rw [← hn] at HAT HCAP ⊢
  have HN := Lib.hid hn
  clear hL hcap hcm hat hn
  by_cases h12 : n ≤ 12
  · go_enter Try.func4, Try.ntmps4
    go_wp2
    go_loopw [5, 6, 7, 8] (fun vs ve va vi wr => ∃ i : Nat, i ≤ n ∧ vi = .int .i64 i ∧ vs = .string ⟨(frs (L.take i)).toArray⟩ ∧ TW w.heap.size w ve va (endCells (L.take i)) (strCells (L.take i)) wr ∧ ∀ r ∈ L.take i, 1 ≤ r.length ∧ r.length ≤ 100) (fun _ _ _ vi _ => n - (intOf vi).toNat)
    case atStart => exact ⟨0, by omega, rfl, rfl, TW.nil (Below.refl _ _) (Nat.le_refl _), by simp⟩
    case round =>
      obtain ⟨i, hin, rfl, rfl, hT, hall⟩ := hrel
      have hfl : (frs (L.take i)).length ≤ 2000 := by
        have h1 := frs_bound (L.take i) 100 fun r hr => (hall r hr).2
        have h2 : (L.take i).length ≤ 12 := by rw [List.length_take]; omega
        have h3 := Nat.mul_le_mul_right (100 + 6) h2
        omega
      have HTW := Lib.hid hT
      have HALL := Lib.hid hall
      have hbel := hT.bel
      have hsz := hT.sz
      obtain ⟨⟨ea, ec, rfl⟩, ⟨ta, tc, rfl⟩⟩ := hT.shape
      have HBEL := Lib.hid hbel
      clear hT hall hbel
      by_cases hlt : i < n
      · obtain ⟨b, off, a, c, rfl, hb, hcell, hy⟩ := HAT.out i hlt
        have hcw : wr.cell? ⟨b, off + i, none⟩ = some (.slice a (L.getD i []).length c) := (HBEL.out.cell (p := ⟨b, off + i, none⟩) hb).trans hcell
        have HY := Lib.hid hy
        have HC := Lib.hid hcell
        have HR : Hid (L.take (i + 1) = L.take i ++ [L.getD i []]) := take_snoc' L i (by rw [← HN.out]; exact hlt)
        clear hcell hy
        by_cases hq : 1 ≤ (L.getD i []).length ∧ (L.getD i []).length ≤ 100
        · obtain ⟨hq1, hq2⟩ := hq
          have hadd := add_frames L i (by rw [← HN.out]; exact hlt) (by omega) (by omega)
          have hok : okR (L.getD i []) := ⟨hq1, by omega⟩
          have hE : (endCells (L.take i)).length ≤ 12 := by rw [endCells_length, List.length_take]; omega
          have hTl : (strCells (L.take i)).length ≤ 12 := by rw [strCells_length, List.length_take]; omega
          obtain ⟨s2, hs2⟩ : ∃ s2 : ByteArray, s2 = ⟨(frs (L.take (i + 1))).toArray⟩ := ⟨_, rfl⟩
          have hsz2 : ((frs (L.take (i + 1))).length : Nat) = s2.size := by rw [hs2]; exact List.size_toArray.symm
          rw [← hs2] at hadd
          have HS2 := Lib.hid hs2
          have HSZ := Lib.hid hsz2
          clear hs2 hsz2
          generalize L.getD i [] = r at hcw HY HC HR hq1 hq2 hadd hok
          have HOK := Lib.hid hok
          obtain ⟨q, hqq⟩ : ∃ q, q = r.length := ⟨_, rfl⟩
          rw [← hqq] at hcw HY HC hq1 hq2
          have HQ := Lib.hid hqq
          clear hok hqq
          go_wp2_with fail
          refine (frame_yes _ _ r wr (HY.out.keep HBEL.out) hsz HOK.out).mono ?_
          rintro e w1 ⟨fa, fc, rfl, hown, hb1⟩
          have hcv := run_conv_byt (byt_own hown (Nat.le_refl _))
          have hcw1 : w1.cell? ⟨b, off + i, none⟩ = some (.slice a q c) := ((HBEL.out.trans (hb1.mono hsz)).cell (p := ⟨b, off + i, none⟩) hb).trans HC.out
          have TW1 := Lib.hid (HTW.out.on hb1)
          clear hown hb1 hcw
          go_wp2_with fail
          all_goals first
            | (exfalso; omega)
            | skip
          refine wp_region_held_drew (S := fun u => Below w.heap.size w u) (by kernel_rfl) TW1.out.drew.bel (fun hHeld => ?_)
          have T0 := Lib.hid TW1.out.drew
          first
            | (refine held_take 0 57 (v := ?_) rfl rfl (by kernel_rfl) (by kernel_rfl) (by kernel_rfl) (fun _ _ _ h => h) (by assumption) (by rfl) ?_ ?_; rotate_left; (focus (intro w hSw; (have z1 := (hSw.cell (p := ⟨b, off + i, none⟩) hb).trans HC.out; have z2 := run_conv_byt (HY.out.keep hSw)); go_simp <;> with_reducible rfl)))
            | refine held_pass 0 57 rfl rfl (by kernel_rfl) (by kernel_rfl) (by kernel_rfl) (fun _ _ _ h => h) (by assumption) (by rfl) ?_
          simp only [Act.put, List.setIfInBounds_toArray, List.set_cons_zero, List.set_cons_succ]
          first
            | (refine held_take 1 58 (v := ?_) rfl rfl (by kernel_rfl) (by kernel_rfl) (by kernel_rfl) (fun _ _ _ h => h) (by assumption) (by rfl) ?_ ?_; rotate_left; (focus (intro w hSw; (have z1 := (hSw.cell (p := ⟨b, off + i, none⟩) hb).trans HC.out; have z2 := run_conv_byt (HY.out.keep hSw)); go_simp <;> with_reducible rfl)))
            | refine held_pass 1 58 rfl rfl (by kernel_rfl) (by kernel_rfl) (by kernel_rfl) (fun _ _ _ h => h) (by assumption) (by rfl) ?_
          simp only [Act.put, List.setIfInBounds_toArray, List.set_cons_zero, List.set_cons_succ]
          first
            | (refine held_take 2 59 (v := ?_) rfl rfl (by kernel_rfl) (by kernel_rfl) (by kernel_rfl) (fun _ _ _ h => h) (by assumption) (by rfl) ?_ ?_; rotate_left; (focus (intro w hSw; (have z1 := (hSw.cell (p := ⟨b, off + i, none⟩) hb).trans HC.out; have z2 := run_conv_byt (HY.out.keep hSw)); go_simp <;> with_reducible rfl)))
            | refine held_pass 2 59 rfl rfl (by kernel_rfl) (by kernel_rfl) (by kernel_rfl) (fun _ _ _ h => h) (by assumption) (by rfl) ?_
          simp only [Act.put, List.setIfInBounds_toArray, List.set_cons_zero, List.set_cons_succ]
          first
            | (refine held_take 5 62 (v := ?_) rfl rfl (by kernel_rfl) (by kernel_rfl) (by kernel_rfl) (fun _ _ _ h => h) (by assumption) (by rfl) ?_ ?_; rotate_left; (focus (intro w hSw; (have z1 := (hSw.cell (p := ⟨b, off + i, none⟩) hb).trans HC.out; have z2 := run_conv_byt (HY.out.keep hSw)); go_simp <;> with_reducible rfl)))
            | refine held_pass 5 62 rfl rfl (by kernel_rfl) (by kernel_rfl) (by kernel_rfl) (fun _ _ _ h => h) (by assumption) (by rfl) ?_
          simp only [Act.put, List.setIfInBounds_toArray, List.set_cons_zero, List.set_cons_succ]
          first
            | (refine held_take 6 63 (v := ?_) rfl rfl (by kernel_rfl) (by kernel_rfl) (by kernel_rfl) (fun _ _ _ h => h) (by assumption) (by rfl) ?_ ?_; rotate_left; (focus (intro w hSw; (have z1 := (hSw.cell (p := ⟨b, off + i, none⟩) hb).trans HC.out; have z2 := run_conv_byt (HY.out.keep hSw)); go_simp <;> with_reducible rfl)))
            | refine held_pass 6 63 rfl rfl (by kernel_rfl) (by kernel_rfl) (by kernel_rfl) (fun _ _ _ h => h) (by assumption) (by rfl) ?_
          simp only [Act.put, List.setIfInBounds_toArray, List.set_cons_zero, List.set_cons_succ]
          first
            | (refine held_take 7 64 (v := ?_) rfl rfl (by kernel_rfl) (by kernel_rfl) (by kernel_rfl) (fun _ _ _ h => h) (by assumption) (by rfl) ?_ ?_; rotate_left; (focus (intro w hSw; (have z1 := (hSw.cell (p := ⟨b, off + i, none⟩) hb).trans HC.out; have z2 := run_conv_byt (HY.out.keep hSw)); go_simp <;> with_reducible rfl)))
            | refine held_pass 7 64 rfl rfl (by kernel_rfl) (by kernel_rfl) (by kernel_rfl) (fun _ _ _ h => h) (by assumption) (by rfl) ?_
          simp only [Act.put, List.setIfInBounds_toArray, List.set_cons_zero, List.set_cons_succ]
          first
            | (refine held_take 8 65 (v := ?_) rfl rfl (by kernel_rfl) (by kernel_rfl) (by kernel_rfl) (fun _ _ _ h => h) (by assumption) (by rfl) ?_ ?_; rotate_left; (focus (intro w hSw; (have z1 := (hSw.cell (p := ⟨b, off + i, none⟩) hb).trans HC.out; have z2 := run_conv_byt (HY.out.keep hSw)); go_simp <;> with_reducible rfl)))
            | refine held_pass 8 65 rfl rfl (by kernel_rfl) (by kernel_rfl) (by kernel_rfl) (fun _ _ _ h => h) (by assumption) (by rfl) ?_
          simp only [Act.put, List.setIfInBounds_toArray, List.set_cons_zero, List.set_cons_succ]
          first
            | (refine held_take 9 66 (v := ?_) rfl rfl (by kernel_rfl) (by kernel_rfl) (by kernel_rfl) (fun _ _ _ h => h) (by assumption) (by rfl) ?_ ?_; rotate_left; (focus (intro w hSw; (have z1 := (hSw.cell (p := ⟨b, off + i, none⟩) hb).trans HC.out; have z2 := run_conv_byt (HY.out.keep hSw)); go_simp <;> with_reducible rfl)))
            | refine held_pass 9 66 rfl rfl (by kernel_rfl) (by kernel_rfl) (by kernel_rfl) (fun _ _ _ h => h) (by assumption) (by rfl) ?_
          simp only [Act.put, List.setIfInBounds_toArray, List.set_cons_zero, List.set_cons_succ]
          first
            | (refine held_take 10 67 (v := ?_) rfl rfl (by kernel_rfl) (by kernel_rfl) (by kernel_rfl) (fun _ _ _ h => h) (by assumption) (by rfl) ?_ ?_; rotate_left; (focus (intro w hSw; (have z1 := (hSw.cell (p := ⟨b, off + i, none⟩) hb).trans HC.out; have z2 := run_conv_byt (HY.out.keep hSw)); go_simp <;> with_reducible rfl)))
            | refine held_pass 10 67 rfl rfl (by kernel_rfl) (by kernel_rfl) (by kernel_rfl) (fun _ _ _ h => h) (by assumption) (by rfl) ?_
          simp only [Act.put, List.setIfInBounds_toArray, List.set_cons_zero, List.set_cons_succ]
          refine wpAnyH_ready (rs := [3, 11]) (by kernel_rfl) (by simp) (AllReadyH.cons rfl (fun K hK => ?_) (AllReadyH.cons rfl (fun K hK => ?_) AllReadyH.nil))
          · have TX1 := Lib.hid (TW1.out.alloc (.cells #[.int .i64 s2.size] 3))
            have PX2 : Hid ((w1.alloc (.cells #[.int .i64 s2.size] 3)).drew.heap[w1.heap.size]? = some (.cells #[.int .i64 s2.size] 3)) := by
              have h := heap_alloc_new w1 (.cells #[.int .i64 s2.size] 3)
              exact h
            have TX3 := Lib.hid TX1.out.drew
            simp only [Go.wp_at_succ, Go.wp_at_zero]
            go_simp
            with_reducible refine hK.out _ _ TX3.out.bel (fun hHeld => ?_)
            clear hK K
            try simp only [Act.put, List.setIfInBounds_toArray, List.set_cons_zero, List.set_cons_succ]
            refine wpAnyH_ready (rs := [4, 11]) (by kernel_rfl) (by simp) (AllReadyH.cons rfl (fun K hK => ?_) (AllReadyH.cons rfl (fun K hK => ?_) AllReadyH.nil))
            · refine wal_step_append rfl (.tmp 57) (.tmp 60) 35 35 rfl w.heap.size 3 i1 (.int .i64 0) 1 8 Try.underlying35 hi hz0 hz1 hz2 rfl _ _ _ rfl TX3.out.e _ 1 [.int .i64 s2.size] rfl (src_blk 35 3 Try.underlying35 PX2.out rfl) ?_ ?_ TX3.out.sz ?_
              · unfold maxLen; omega
              · omega
              intro vx8 ux5 hx6 gx7
              have TX4 := Lib.hid (TX3.out.growE hx6 gx7)
              obtain ⟨xx9, yx10, rfl⟩ := own_shape hx6
              clear hx6 gx7
              with_reducible refine hK.out _ _ TX4.out.bel (fun hHeld => ?_)
              clear hK K
              try simp only [Act.put, List.setIfInBounds_toArray]
              refine wpAnyH_ready (rs := [11]) (by kernel_rfl) (by simp) (AllReadyH.cons rfl (fun K hK => ?_) AllReadyH.nil)
              have TX11 := Lib.hid (TX4.out.alloc (.cells #[.string ⟨r.toArray⟩] 9))
              have PX12 : Hid ((ux5.alloc (.cells #[.string ⟨r.toArray⟩] 9)).heap[ux5.heap.size]? = some (.cells #[.string ⟨r.toArray⟩] 9)) := by
                have h := heap_alloc_new ux5 (.cells #[.string ⟨r.toArray⟩] 9)
                exact h
              simp only [Go.wp_at_succ, Go.wp_at_zero]
              go_simp
              with_reducible refine hK.out _ _ TX11.out.bel (fun hHeld => ?_)
              clear hK K
              try simp only [Act.put, List.setIfInBounds_toArray, List.set_cons_zero, List.set_cons_succ]
              refine wpAnyH_ready (rs := [12]) (by kernel_rfl) (by simp) (AllReadyH.cons rfl (fun K hK => ?_) AllReadyH.nil)
              refine wal_step_append rfl (.tmp 62) (.tmp 68) 30 30 rfl w.heap.size 9 i2 (.string ⟨#[]⟩) 1 16 Try.underlying30 gi gz0 gz1 gz2 rfl _ _ _ rfl TX11.out.t _ 1 [.string ⟨r.toArray⟩] rfl (src_blk 30 9 Try.underlying30 PX12.out rfl) ?_ ?_ TX11.out.sz ?_
              · unfold maxLen; omega
              · omega
              intro vx17 ux14 hx15 gx16
              have TX13 := Lib.hid (TX11.out.growT hx15 gx16)
              obtain ⟨xx18, yx19, rfl⟩ := own_shape hx15
              clear hx15 gx16
              with_reducible refine hK.out _ _ TX13.out.bel (fun hHeld => ?_)
              clear hK K
              try simp only [Act.put]
              refine wpAnyH_ready (rs := [13]) (by kernel_rfl) (by simp) (AllReadyH.cons rfl (fun K hK => ?_) AllReadyH.nil)
              simp only [Go.wp_at_succ, Go.wp_at_zero]
              go_simp
              with_reducible refine hK.out _ _ TX13.out.bel (fun hHeld => ?_)
              clear hK K
              try simp only [Act.put, List.setIfInBounds_toArray, List.set_cons_zero, List.set_cons_succ]
              refine wpAnyH_ready (rs := [14]) (by kernel_rfl) (by simp) (AllReadyH.cons rfl (fun K hK => ?_) AllReadyH.nil)
              simp only [Go.wp_at_succ, Go.wp_at_zero]
              go_simp
              with_reducible refine hK.out _ _ TX13.out.bel (fun hHeld => ?_)
              clear hK K
              try simp only [Act.put, List.setIfInBounds_toArray, List.set_cons_zero, List.set_cons_succ]
              refine wpAnyH_done (by kernel_rfl) ?_ _
              go_wp2
              go_roundw
              case rel =>
                have hT := TX13.out
                rw [← HSZ.out] at hT
                refine ⟨i + 1, by omega, by go_num, by rw [HS2.out], ?_, ?_⟩
                · rw [HR.out, endCells_snoc, strCells_snoc, ← HR.out]
                  exact hT
                · rw [HR.out]
                  intro x hx
                  rcases List.mem_append.1 hx with hx | hx
                  · exact HALL.out x hx
                  · rw [List.mem_singleton.1 hx, ← HQ.out]; exact ⟨hq1, hq2⟩
              case measure => simp [intOf]; omega
            · have TX20 := Lib.hid (TX1.out.alloc (.cells #[.string ⟨r.toArray⟩] 9))
              have PX21 : Hid (((w1.alloc (.cells #[.int .i64 s2.size] 3)).alloc (.cells #[.string ⟨r.toArray⟩] 9)).drew.heap[w1.heap.size + 1]? = some (.cells #[.string ⟨r.toArray⟩] 9)) := by
                have h := heap_alloc_new (w1.alloc (.cells #[.int .i64 s2.size] 3)) (.cells #[.string ⟨r.toArray⟩] 9)
                rw [World.size_alloc] at h
                exact h
              have PX22 : Hid (((w1.alloc (.cells #[.int .i64 s2.size] 3)).alloc (.cells #[.string ⟨r.toArray⟩] 9)).drew.heap[w1.heap.size]? = some (.cells #[.int .i64 s2.size] 3)) := (Below.heap_alloc (w1.alloc (.cells #[.int .i64 s2.size] 3)) (.cells #[.string ⟨r.toArray⟩] 9) _ (lt_of_block (show ((w1.alloc (.cells #[.int .i64 s2.size] 3)) : World).heap[w1.heap.size]? = _ from PX2.out))).trans PX2.out
              have TX23 := Lib.hid TX20.out.drew
              simp only [Go.wp_at_succ, Go.wp_at_zero]
              go_simp
              with_reducible refine hK.out _ _ TX23.out.bel (fun hHeld => ?_)
              clear hK K
              try simp only [Act.put, List.setIfInBounds_toArray, List.set_cons_zero, List.set_cons_succ]
              refine wpAnyH_ready (rs := [4]) (by kernel_rfl) (by simp) (AllReadyH.cons rfl (fun K hK => ?_) AllReadyH.nil)
              refine wal_step_append rfl (.tmp 57) (.tmp 60) 35 35 rfl w.heap.size 3 i1 (.int .i64 0) 1 8 Try.underlying35 hi hz0 hz1 hz2 rfl _ _ _ rfl TX23.out.e _ 1 [.int .i64 s2.size] rfl (src_blk 35 3 Try.underlying35 PX22.out rfl) ?_ ?_ TX23.out.sz ?_
              · unfold maxLen; omega
              · omega
              intro vx28 ux25 hx26 gx27
              have TX24 := Lib.hid (TX23.out.growE hx26 gx27)
              have PX29 : Hid (ux25.heap[w1.heap.size + 1]? = some (.cells #[.string ⟨r.toArray⟩] 9)) := block_of TX23.out.e gx27 PX21.out (by decide)
              obtain ⟨xx30, yx31, rfl⟩ := own_shape hx26
              clear hx26 gx27
              with_reducible refine hK.out _ _ TX24.out.bel (fun hHeld => ?_)
              clear hK K
              try simp only [Act.put, List.setIfInBounds_toArray]
              refine wpAnyH_ready (rs := [12]) (by kernel_rfl) (by simp) (AllReadyH.cons rfl (fun K hK => ?_) AllReadyH.nil)
              refine wal_step_append rfl (.tmp 62) (.tmp 68) 30 30 rfl w.heap.size 9 i2 (.string ⟨#[]⟩) 1 16 Try.underlying30 gi gz0 gz1 gz2 rfl _ _ _ rfl TX24.out.t _ 1 [.string ⟨r.toArray⟩] rfl (src_blk 30 9 Try.underlying30 PX29.out rfl) ?_ ?_ TX24.out.sz ?_
              · unfold maxLen; omega
              · omega
              intro vx36 ux33 hx34 gx35
              have TX32 := Lib.hid (TX24.out.growT hx34 gx35)
              obtain ⟨xx37, yx38, rfl⟩ := own_shape hx34
              clear hx34 gx35
              with_reducible refine hK.out _ _ TX32.out.bel (fun hHeld => ?_)
              clear hK K
              try simp only [Act.put]
              refine wpAnyH_ready (rs := [13]) (by kernel_rfl) (by simp) (AllReadyH.cons rfl (fun K hK => ?_) AllReadyH.nil)
              simp only [Go.wp_at_succ, Go.wp_at_zero]
              go_simp
              with_reducible refine hK.out _ _ TX32.out.bel (fun hHeld => ?_)
              clear hK K
              try simp only [Act.put, List.setIfInBounds_toArray, List.set_cons_zero, List.set_cons_succ]
              refine wpAnyH_ready (rs := [14]) (by kernel_rfl) (by simp) (AllReadyH.cons rfl (fun K hK => ?_) AllReadyH.nil)
              simp only [Go.wp_at_succ, Go.wp_at_zero]
              go_simp
              with_reducible refine hK.out _ _ TX32.out.bel (fun hHeld => ?_)
              clear hK K
              try simp only [Act.put, List.setIfInBounds_toArray, List.set_cons_zero, List.set_cons_succ]
              refine wpAnyH_done (by kernel_rfl) ?_ _
              go_wp2
              go_roundw
              case rel =>
                have hT := TX32.out
                rw [← HSZ.out] at hT
                refine ⟨i + 1, by omega, by go_num, by rw [HS2.out], ?_, ?_⟩
                · rw [HR.out, endCells_snoc, strCells_snoc, ← HR.out]
                  exact hT
                · rw [HR.out]
                  intro x hx
                  rcases List.mem_append.1 hx with hx | hx
                  · exact HALL.out x hx
                  · rw [List.mem_singleton.1 hx, ← HQ.out]; exact ⟨hq1, hq2⟩
              case measure => simp [intOf]; omega
          · have TX39 := Lib.hid (TW1.out.alloc (.cells #[.string ⟨r.toArray⟩] 9))
            have PX40 : Hid ((w1.alloc (.cells #[.string ⟨r.toArray⟩] 9)).drew.heap[w1.heap.size]? = some (.cells #[.string ⟨r.toArray⟩] 9)) := by
              have h := heap_alloc_new w1 (.cells #[.string ⟨r.toArray⟩] 9)
              exact h
            have TX41 := Lib.hid TX39.out.drew
            simp only [Go.wp_at_succ, Go.wp_at_zero]
            go_simp
            with_reducible refine hK.out _ _ TX41.out.bel (fun hHeld => ?_)
            clear hK K
            try simp only [Act.put, List.setIfInBounds_toArray, List.set_cons_zero, List.set_cons_succ]
            refine wpAnyH_ready (rs := [3]) (by kernel_rfl) (by simp) (AllReadyH.cons rfl (fun K hK => ?_) AllReadyH.nil)
            have TX42 := Lib.hid (TX39.out.alloc (.cells #[.int .i64 s2.size] 3))
            have PX43 : Hid (((w1.alloc (.cells #[.string ⟨r.toArray⟩] 9)).alloc (.cells #[.int .i64 s2.size] 3)).drew.heap[w1.heap.size + 1]? = some (.cells #[.int .i64 s2.size] 3)) := by
              have h := heap_alloc_new (w1.alloc (.cells #[.string ⟨r.toArray⟩] 9)) (.cells #[.int .i64 s2.size] 3)
              rw [World.size_alloc] at h
              exact h
            have PX44 : Hid (((w1.alloc (.cells #[.string ⟨r.toArray⟩] 9)).alloc (.cells #[.int .i64 s2.size] 3)).drew.heap[w1.heap.size]? = some (.cells #[.string ⟨r.toArray⟩] 9)) := (Below.heap_alloc (w1.alloc (.cells #[.string ⟨r.toArray⟩] 9)) (.cells #[.int .i64 s2.size] 3) _ (lt_of_block (show ((w1.alloc (.cells #[.string ⟨r.toArray⟩] 9)) : World).heap[w1.heap.size]? = _ from PX40.out))).trans PX40.out
            have TX45 := Lib.hid TX42.out.drew
            simp only [Go.wp_at_succ, Go.wp_at_zero]
            go_simp
            with_reducible refine hK.out _ _ TX45.out.bel (fun hHeld => ?_)
            clear hK K
            try simp only [Act.put, List.setIfInBounds_toArray, List.set_cons_zero, List.set_cons_succ]
            refine wpAnyH_ready (rs := [4]) (by kernel_rfl) (by simp) (AllReadyH.cons rfl (fun K hK => ?_) AllReadyH.nil)
            refine wal_step_append rfl (.tmp 57) (.tmp 60) 35 35 rfl w.heap.size 3 i1 (.int .i64 0) 1 8 Try.underlying35 hi hz0 hz1 hz2 rfl _ _ _ rfl TX45.out.e _ 1 [.int .i64 s2.size] rfl (src_blk 35 3 Try.underlying35 PX43.out rfl) ?_ ?_ TX45.out.sz ?_
            · unfold maxLen; omega
            · omega
            intro vx50 ux47 hx48 gx49
            have TX46 := Lib.hid (TX45.out.growE hx48 gx49)
            have PX51 : Hid (ux47.heap[w1.heap.size]? = some (.cells #[.string ⟨r.toArray⟩] 9)) := block_of TX45.out.e gx49 PX44.out (by decide)
            obtain ⟨xx52, yx53, rfl⟩ := own_shape hx48
            clear hx48 gx49
            with_reducible refine hK.out _ _ TX46.out.bel (fun hHeld => ?_)
            clear hK K
            try simp only [Act.put, List.setIfInBounds_toArray]
            refine wpAnyH_ready (rs := [12]) (by kernel_rfl) (by simp) (AllReadyH.cons rfl (fun K hK => ?_) AllReadyH.nil)
            refine wal_step_append rfl (.tmp 62) (.tmp 68) 30 30 rfl w.heap.size 9 i2 (.string ⟨#[]⟩) 1 16 Try.underlying30 gi gz0 gz1 gz2 rfl _ _ _ rfl TX46.out.t _ 1 [.string ⟨r.toArray⟩] rfl (src_blk 30 9 Try.underlying30 PX51.out rfl) ?_ ?_ TX46.out.sz ?_
            · unfold maxLen; omega
            · omega
            intro vx58 ux55 hx56 gx57
            have TX54 := Lib.hid (TX46.out.growT hx56 gx57)
            obtain ⟨xx59, yx60, rfl⟩ := own_shape hx56
            clear hx56 gx57
            with_reducible refine hK.out _ _ TX54.out.bel (fun hHeld => ?_)
            clear hK K
            try simp only [Act.put]
            refine wpAnyH_ready (rs := [13]) (by kernel_rfl) (by simp) (AllReadyH.cons rfl (fun K hK => ?_) AllReadyH.nil)
            simp only [Go.wp_at_succ, Go.wp_at_zero]
            go_simp
            with_reducible refine hK.out _ _ TX54.out.bel (fun hHeld => ?_)
            clear hK K
            try simp only [Act.put, List.setIfInBounds_toArray, List.set_cons_zero, List.set_cons_succ]
            refine wpAnyH_ready (rs := [14]) (by kernel_rfl) (by simp) (AllReadyH.cons rfl (fun K hK => ?_) AllReadyH.nil)
            simp only [Go.wp_at_succ, Go.wp_at_zero]
            go_simp
            with_reducible refine hK.out _ _ TX54.out.bel (fun hHeld => ?_)
            clear hK K
            try simp only [Act.put, List.setIfInBounds_toArray, List.set_cons_zero, List.set_cons_succ]
            refine wpAnyH_done (by kernel_rfl) ?_ _
            go_wp2
            go_roundw
            case rel =>
              have hT := TX54.out
              rw [← HSZ.out] at hT
              refine ⟨i + 1, by omega, by go_num, by rw [HS2.out], ?_, ?_⟩
              · rw [HR.out, endCells_snoc, strCells_snoc, ← HR.out]
                exact hT
              · rw [HR.out]
                intro x hx
                rcases List.mem_append.1 hx with hx | hx
                · exact HALL.out x hx
                · rw [List.mem_singleton.1 hx, ← HQ.out]; exact ⟨hq1, hq2⟩
            case measure => simp [intOf]; omega
        · have HYF := Lib.hid (fun (u : World) (hu : Below w.heap.size w u) => frame_some _ _ _ u (HY.out.keep hu) hu.size)
          generalize (L.getD i []).length = q at hcw HY HC HYF hq
          go_wp2_with fail
          refine (HYF.out _ HBEL.out).mono ?_
          rintro e w1 ⟨fa, fn, fc, x, rfl, hb1⟩
          have B1 := Lib.hid (HBEL.out.trans (hb1.mono hsz))
          have hcw1 : w1.cell? ⟨b, off + i, none⟩ = some (.slice a q c) := (B1.out.cell (p := ⟨b, off + i, none⟩) hb).trans HC.out
          have hs1 := B1.out.size
          clear hb1 hcw
          rcases (show q < 1 ∨ (1 ≤ q ∧ 100 < q) by omega) with hq' | ⟨hq', hq''⟩
          all_goals
            clear hq
            go_wp2_with (go_at_call 8; (with_reducible refine (HT.out _).mono ?_); rintro e w9 ⟨rfl, hb⟩; have B9 := Lib.hid hb; clear hb)
            go_returns
            exact ⟨rfl, B1.out.trans (B9.out.mono hs1)⟩
      · obtain rfl : i = n := by omega
        have htk : L.take i = L := by rw [HN.out]; exact List.take_length
        rw [htk] at HTW HALL
        have hfe : (endCells (L.take i)).length = i := by rw [htk, endCells_length]; exact HN.out.symm
        have hft : (strCells (L.take i)).length = i := by rw [htk, strCells_length]; exact HN.out.symm
        rw [hfe, hft]
        rw [htk] at hfe hft
        rw [hfe, hft] at HTW
        obtain ⟨s2, hs2⟩ : ∃ s2 : ByteArray, s2 = ⟨(frs (L.take i)).toArray⟩ := ⟨_, rfl⟩
        have hsz2 : s2.size = (frs L).length := by rw [hs2, htk]; exact List.size_toArray
        have hsd : s2.data.toList = frs L := by rw [hs2, htk]
        rw [← hs2]
        rw [htk] at hfl
        have HSZ := Lib.hid hsz2
        have HSD := Lib.hid hsd
        have HOK : Hid (∀ r ∈ L, okR r) := fun r hr => by
          have := HALL.out r hr
          exact ⟨this.1, by omega⟩
        have HE : Hid (∀ m, m < i → ∃ g, ea = some ⟨g, 0, none⟩ ∧ wr.cell? ⟨g, m, none⟩ = some (.int .i64 (((frs (L.take (m + 1))).length : Nat) : Int))) := fun m hm => by
          have h := HTW.out.e
          rcases h.2 with ⟨hz, _⟩ | ⟨g, cp, cur, he, _⟩
          · simp at hz; omega
          · simp only [Value.slice.injEq] at he
            obtain ⟨rfl, _, _⟩ := he
            have := h.cells (g := g) rfl m _ (endCells_get L m (by rw [← HN.out]; exact hm))
            rw [Addr.add_lit, Nat.zero_add] at this
            exact ⟨g, rfl, this⟩
        have HTC : Hid (i ≤ tc) := by
          obtain ⟨_, _, he, hle, _⟩ := strs_own HTW.out.t
          simp only [Value.slice.injEq] at he
          rw [he.2.1, he.2.2]
          exact hle
        have HST : Hid (StrsAt wr wr.heap.size (.slice ta i tc) L) := strs_own HTW.out.t
        obtain ⟨A, hA⟩ : ∃ A : Nat, IntKind.u64.wrap a1 = (A : Int) := ⟨(IntKind.u64.wrap a1).toNat, by rw [IntKind.wrap_u64]; omega⟩
        have hz : (((s2.size : Int) + 1) == 0) = false := by rw [beq_eq_false_iff_ne]; omega
        have hk : (A : Int) % ((s2.size : Int) + 1) = ((A % (s2.size + 1) : Nat) : Int) := by rw [Int.natCast_emod, Int.natCast_add]; rfl
        have hkl : A % (s2.size + 1) ≤ s2.size := by have := Nat.mod_lt A (show 0 < s2.size + 1 by omega); omega
        generalize A % (s2.size + 1) = k at hk hkl
        have hs2l : s2.size ≤ 2000 := by omega
        have wf1 : IntKind.u64.wrap ((s2.size : Int) + 1) = (s2.size : Int) + 1 := IntWalk.u64_in _ (by omega)
        have wf2 : IntKind.i64.wrap (k : Int) = (k : Int) := IntWalk.i64_in _ (by omega)
        have wf3 : IntKind.i64.wrap ((s2.size : Int) + 1) = (s2.size : Int) + 1 := IntWalk.i64_in _ (by omega)
        clear htk hfe hft hs2 hsz2 hsd hfl hlt
        go_wp2
        clear hA hz hk wf1 wf2 wf3
        go_loop [12, 13] (fun vn ve => ∃ m : Nat, m ≤ i ∧ vn = .int .i64 m ∧ ve = .int .i64 (((frs (L.take m)).length : Nat) : Int) ∧ (frs (L.take m)).length ≤ k) (fun vn _ => i - (intOf vn).toNat)
        case atStart => exact ⟨0, by omega, rfl, rfl, by simp [frs_nil]⟩
        case round =>
          obtain ⟨m, hm, rfl, rfl, hmk⟩ := hrel
          by_cases hc : m < i ∧ (frs (L.take (m + 1))).length ≤ k
          · obtain ⟨hc1, hc2⟩ := hc
            obtain ⟨g, rfl, hg⟩ := HE.out m hc1
            generalize hF : (frs (L.take (m + 1))).length = F at hc2 hg
            have HF := Lib.hid hF
            clear hF
            go_wp2
            go_round
            case rel => exact ⟨m + 1, by omega, by go_num, by rw [HF.out], by rw [HF.out]; exact hc2⟩
            case measure => simp [intOf]; omega
          · obtain ⟨rest, hcut, hr0⟩ := cut_at L k m HOK.out (by rw [← HN.out]; exact hm) hmk (by rw [← HN.out]; omega)
            have HCUT := Lib.hid hcut
            have HR0 := Lib.hid hr0
            have hML : (L.take m).length = m := by rw [List.length_take, ← HN.out]; omega
            have hsub := fun u => to_str s2 k k rfl hkl u
            rw [HSD.out] at hsub
            have hsub1 := fun u => (hsub u).1
            have hsub2 := fun u => (hsub u).2
            obtain ⟨q1, x1, hx1, hb1, _, hbel1⟩ := conv_bytes wr ((frs L).take k) (by rw [List.length_take]; unfold maxLen; omega)
            have HRd1 : Hid (Calls Try.prog 11 #[.slice (some ⟨wr.heap.size, 0, none⟩) ((frs L).take k).length q1] x1 fun e u' => ∃ v', e = .returned (.tuple #[v', .int .i64 (((frs (L.take m)).length : Nat) : Int)]) ∧ (∃ a c, v' = .slice a m c) ∧ Hid (BytsAt u' u'.heap.size v' (L.take m)) ∧ Below x1.heap.size x1 u') := by
              have h := read_frames _ _ (L.take m) rest x1 hb1 hcut hr0 (fun r hr => HOK.out r (List.mem_of_mem_take hr)) (by rw [List.length_take]; omega)
              rw [hML] at h
              exact h
            have HX1 := Lib.hid (hbel1)
            have hadd : ∀ u, (Op.stringOp .add s2 ⟨#[0, 0, 1, 2, 3, 4, 5]⟩).run Try.prog u = .ok (.string ⟨(frs L ++ [0, 0, 1, 2, 3, 4, 5]).toArray⟩) u := fun u => by
              rw [run_string_add_sum u _ _ (by show s2.size + 7 ≤ _; omega)]
              congr 2
              apply ByteArray.ext
              have : s2.data = (frs L).toArray := by rw [← HSD.out]
              simp [ByteArray.data_append, this]
            have HRd2 : Hid (∀ (u : World) (v : Value), Byt u u.heap.size v (frs L ++ [0, 0, 1, 2, 3, 4, 5]) → Calls Try.prog 11 #[v] u fun e u' => ∃ v', e = .returned (.tuple #[v', .int .i64 s2.size]) ∧ (∃ a c, v' = .slice a i c) ∧ Hid (BytsAt u' u'.heap.size v' L) ∧ Below u.heap.size u u') := fun u v hv => by
              have h := read_frames v _ L [0, 0, 1, 2, 3, 4, 5] u hv rfl (firstR_zeros _ _ _ _ _) HOK.out (by rw [List.length_append, ← HSZ.out]; simp; omega)
              rw [← HN.out, ← HSZ.out] at h
              exact h
            have HCV : Hid (∀ u : World, ∃ c u', (convert 9 22 (.string ⟨(frs L ++ [0, 0, 1, 2, 3, 4, 5]).toArray⟩)).run Try.prog u = .ok (.slice (some ⟨u.heap.size, 0, none⟩) (frs L ++ [0, 0, 1, 2, 3, 4, 5]).length c) u' ∧ Hid (Byt u' u'.heap.size (.slice (some ⟨u.heap.size, 0, none⟩) (frs L ++ [0, 0, 1, 2, 3, 4, 5]).length c) (frs L ++ [0, 0, 1, 2, 3, 4, 5])) ∧ Hid (Below u.heap.size u u')) := fun u => by
              obtain ⟨c, u', h1, h2, _, h4⟩ := conv_bytes u (frs L ++ [0, 0, 1, 2, 3, 4, 5]) (by rw [List.length_append, ← HSZ.out]; unfold maxLen; simp; omega)
              exact ⟨c, u', h1, h2, h4⟩
            have hsl := fun u => run_to 30 Try.underlying30 size_str ta i tc m m rfl (Nat.le_trans hm (HTC.out)) u
            have hsl1 := fun u => (hsl u).1
            have hsl2 := fun u => (hsl u).2
            generalize (frs L ++ [0, 0, 1, 2, 3, 4, 5]) = bz at hadd HRd2 HCV
            obtain ⟨bzn, hbzn⟩ : ∃ z, z = bz.length := ⟨_, rfl⟩
            rw [← hbzn] at HCV
            obtain ⟨bkn, hbkn⟩ : ∃ z, z = ((frs L).take k).length := ⟨_, rfl⟩
            rw [← hbkn] at hx1 HRd1
            generalize (frs L).take k = bk at hsub1 hsub2 hx1
            obtain ⟨F, hF⟩ : ∃ F, F = (frs (L.take m)).length := ⟨_, rfl⟩
            rw [← hF] at HRd1 ⊢
            clear hsub hcut hr0 hML hb1 hbel1 hsl hbzn hbkn hF hmk
            rcases (show m = i ∨ (m < i ∧ k < (frs (L.take (m + 1))).length) by omega) with hcc | ⟨hcc, hcd⟩
            · have hge : i ≤ m := by omega
              clear hc hcc
              go_wp2_with fail
              (with_reducible refine HRd1.out.mono ?_)
              rintro e y1 ⟨v1, rfl, ⟨va1, vc1, rfl⟩, Y1, hb1⟩
              have D1 := Lib.hid (HX1.out.trans (hb1.mono HX1.out.size))
              clear hb1 hx1 hsub1 hsub2
              obtain ⟨c2, x2, hx2, Z2, X2⟩ := HCV.out y1
              go_wp2_with fail
              (with_reducible refine (HRd2.out _ _ Z2.out).mono ?_)
              rintro e y2 ⟨v2, rfl, ⟨va2, vc2, rfl⟩, Y2, hb2⟩
              have D2 := Lib.hid (X2.out.trans (hb2.mono X2.out.size))
              clear hb2 hx2 hadd
              go_wp2_with fail
              refine (HT.out _).mono ?_
              rintro e y3 ⟨rfl, hb3⟩
              have D3 := Lib.hid hb3
              clear hb3
              have E23 := Lib.hid (D2.out.trans (D3.out.mono D2.out.size))
              have E13 := Lib.hid (D1.out.trans (E23.out.mono D1.out.size))
              have g1 : BytsAt y3 y3.heap.size (.slice va1 m vc1) (L.take m) := (Y1.out.keep E23.out).mono E23.out.size
              have g2 : StrsAt y3 y3.heap.size (.slice ta m tc) (L.take m) := ((HST.out.keep E13.out).mono E13.out.size).to m (by rw [← HN.out]; exact hm)
              have G1 := Lib.hid (texts_yes _ _ _ _ y3 g1 g2 (by rw [List.length_take]; have := HN.out; omega))
              have g3 : BytsAt y3 y3.heap.size (.slice va2 i vc2) L := (Y2.out.keep D3.out).mono D3.out.size
              have G3 := Lib.hid g3
              clear g1 g2 g3
              go_wp2_with fail
              refine G1.out.mono ?_
              rintro e y4 ⟨rfl, n4, rfl⟩
              have G2 := Lib.hid (texts_yes (.slice va2 i vc2) (.slice ta i tc) y3.heap.size L (y3.drewN n4) (G3.out.keep ⟨rfl, rfl, rfl, Nat.le_refl _, fun _ _ => rfl⟩) (((HST.out.keep E13.out).mono E13.out.size).keep ⟨rfl, rfl, rfl, Nat.le_refl _, fun _ _ => rfl⟩) (by have := HN.out; omega))
              go_wp2_with fail
              refine G2.out.mono ?_
              rintro e y5 ⟨rfl, n5, rfl⟩
              clear hsl1 hsl2
              go_wp2
              go_returns
              exact ⟨rfl, (HBEL.out.trans (E13.out.mono hsz)).trans ⟨rfl, rfl, rfl, Nat.le_refl _, fun _ _ => rfl⟩⟩
            · obtain ⟨g, rfl, hg⟩ := HE.out m hcc
              generalize (frs (L.take (m + 1))).length = F2 at hcd hg
              clear hc
              go_wp2_with fail
              (with_reducible refine HRd1.out.mono ?_)
              rintro e y1 ⟨v1, rfl, ⟨va1, vc1, rfl⟩, Y1, hb1⟩
              have D1 := Lib.hid (HX1.out.trans (hb1.mono HX1.out.size))
              clear hb1 hx1 hsub1 hsub2
              obtain ⟨c2, x2, hx2, Z2, X2⟩ := HCV.out y1
              go_wp2_with fail
              (with_reducible refine (HRd2.out _ _ Z2.out).mono ?_)
              rintro e y2 ⟨v2, rfl, ⟨va2, vc2, rfl⟩, Y2, hb2⟩
              have D2 := Lib.hid (X2.out.trans (hb2.mono X2.out.size))
              clear hb2 hx2 hadd
              go_wp2_with fail
              refine (HT.out _).mono ?_
              rintro e y3 ⟨rfl, hb3⟩
              have D3 := Lib.hid hb3
              clear hb3
              have E23 := Lib.hid (D2.out.trans (D3.out.mono D2.out.size))
              have E13 := Lib.hid (D1.out.trans (E23.out.mono D1.out.size))
              have g1 : BytsAt y3 y3.heap.size (.slice va1 m vc1) (L.take m) := (Y1.out.keep E23.out).mono E23.out.size
              have g2 : StrsAt y3 y3.heap.size (.slice ta m tc) (L.take m) := ((HST.out.keep E13.out).mono E13.out.size).to m (by rw [← HN.out]; exact hm)
              have G1 := Lib.hid (texts_yes _ _ _ _ y3 g1 g2 (by rw [List.length_take]; have := HN.out; omega))
              have g3 : BytsAt y3 y3.heap.size (.slice va2 i vc2) L := (Y2.out.keep D3.out).mono D3.out.size
              have G3 := Lib.hid g3
              clear g1 g2 g3
              go_wp2_with fail
              refine G1.out.mono ?_
              rintro e y4 ⟨rfl, n4, rfl⟩
              have G2 := Lib.hid (texts_yes (.slice va2 i vc2) (.slice ta i tc) y3.heap.size L (y3.drewN n4) (G3.out.keep ⟨rfl, rfl, rfl, Nat.le_refl _, fun _ _ => rfl⟩) (((HST.out.keep E13.out).mono E13.out.size).keep ⟨rfl, rfl, rfl, Nat.le_refl _, fun _ _ => rfl⟩) (by have := HN.out; omega))
              go_wp2_with fail
              refine G2.out.mono ?_
              rintro e y5 ⟨rfl, n5, rfl⟩
              clear hsl1 hsl2
              go_wp2
              go_returns
              exact ⟨rfl, (HBEL.out.trans (E13.out.mono hsz)).trans ⟨rfl, rfl, rfl, Nat.le_refl _, fun _ _ => rfl⟩⟩
  · go_enter Try.func4, Try.ntmps4
    go_wp2_with (go_at_call 8; (with_reducible refine (HT.out _).mono ?_); rintro e w9 ⟨rfl, hb⟩; have B9 := Lib.hid hb; clear hb)
    go_returns
    exact ⟨rfl, B9.out⟩

set_option maxRecDepth 100000 in
theorem lifted (os : Os) (started : os.Started) (H : Type) (enc : TypeId × Value → H) :
    ReturnsInHanded {} Try.checked os 4 .any (Rows.walBackSpec.pre6 enc Try.prog Try.f4 Rows.walBackRow.domain false) (Rows.walBackSpec.post enc Try.prog Try.f4 false true false false) := by
  refine returnsInHanded_of_change (C := Try.checked) own started (by kernel_rfl) Try.func4
    (ChangeSpec.witness6 (enc := enc) (C := Try.checked) false ⟨#[], #[.slice none 0 0, .int .i64 0], []⟩ 8 (by kernel_rfl) (by kernel_rfl) (by kernel_rfl) (by kernel_rfl)) ?_
  intro W base args ds gs before hval0 hW hcnd _
  have hval : ∀ (j : Nat) t v, Try.f4.params[j]? = some t → args[j]? = some v → Value.okWide Try.prog W .any base t v := hval0
  have hW' := hW
  obtain ⟨p, q, hA0, hV, rfl, hfz, hnd⟩ := hW
  have hA : DataW.TrodAll enc Try.prog W 0 (fun _ => true) true Try.f4.params.toList args.toList ds p := hA0
  rw [Try.params4] at hA hval
  obtain ⟨v0, vs0, d0, ds0, p0, q0, hargs, rfl, rfl, h0, r0⟩ := trodAll_cons hA
  obtain ⟨v1, vs1, d1, ds1, p1, q1, rfl, rfl, rfl, h1, r1⟩ := trodAll_cons r0
  obtain ⟨rfl, rfl, rfl⟩ := trodAll_nil r1
  obtain rfl : args = #[v0, v1] := by cases args; simp_all
  obtain ⟨rfl, rfl⟩ := trodVars_none hV
  obtain ⟨a0, len0, cap0, rfl⟩ := okWide_slice Try.underlying27 (hval 0 27 v0 rfl rfl)
  have k0 := h0
  have lt0 : ∀ x ∈ p0, x.block < W.heap.size := by obtain ⟨m, hm⟩ := k0; exact DataW.trod_lt m _ _ _ hm
  obtain ⟨l0, w0⟩ := bytess_open h0
  obtain ⟨a1, rfl, rfl, rfl, w1⟩ := open_int Try.underlying3 (hval 1 3 v1 rfl rfl) h1
  clear hA0 hval0
  refine (walk (.slice a0 len0 cap0) l0 a1 W w0 w1).mono fun e W' ⟨he, bel⟩ => ?_
  subst he
  exact ⟨_, rfl, _, _, _, [], _, [], hW', trodAll_mk1 (shut_bool Try.underlying4 _), (trodAll_cons_mk (Below.trod laidOut (by kernel_rfl) (of_decide_eq_true (by kernel_rfl)) k0 bel lt0) (trodAll_cons_mk (shut_int Try.underlying3 w1) trodAll_mk0)), rfl, bel.frame _, fun h => by cases h⟩

theorem over : Rows.walBackRow.holds Try.pinned (OpenSpec.ofChange Rows.walBackSpec) :=
  OpenClaim.holds_of_wide 4 Try.f4 rfl rfl rfl rfl rfl rfl rfl ⟨rfl, rfl, rfl, rfl, rfl⟩ rfl rfl rfl rfl rfl (by kernel_rfl) Try.func4 (by kernel_rfl)
    (of_decide_eq_true (by kernel_rfl)) (by unfold Func.isWrapper; first | (rw [if_pos (by decide +kernel)]; kernel_rfl) | (rw [if_neg (by decide +kernel)]; exact ⟨rfl, rfl⟩))
    (fun os started H enc _ => lifted os started H enc)
end Go.Proofs.Ytpmigpgkicacpaa.WalBack

namespace Go.Proofs.Ytpmigpgkicacpaa
theorem walBack_holds : Rows.WalBackSaid := WalBack.over
#print axioms walBack_holds
end Go.Proofs.Ytpmigpgkicacpaa
