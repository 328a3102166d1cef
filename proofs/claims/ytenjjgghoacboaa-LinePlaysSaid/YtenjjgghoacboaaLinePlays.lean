/-
  PROVED: casebooklaw18.LinePlays answers true and leaves its arguments as they were, for any quota and any steps: the row's own reading and nothing else is assumed.
-/
import Derived.Test.YtenjjgghoacboaaLnM
import Derived.Test.YtenjjgghoacboaaLnG
import Derived.Test.YtenjjgghoacboaaLnO
import Derived.Test.YtenjjgghoacboaaDiskV
import Derived.Deep.RegionHeld3
namespace Go.Proofs.Ytenjjgghoacboaa.LinePlays
open Go.ChangeShapes Go.WideShapes Go.ChangeAt Go.RowKit

/-- The steps in memory. -/
def StepsAt (w : World) (ao : Option Addr) (L : List LStepV) : Prop := ∀ k (h : k < L.length), ∃ b off, ao = some ⟨b, off, none⟩ ∧ b < w.heap.size ∧ ∀ u, Below w.heap.size w u → LStepCells u b (off + k * 9) L[k]
theorem steps_at {w : World} {ao : Option Addr} {cap : Nat} {L : List LStepV} (h : LSteps w w.heap.size (.slice ao L.length cap) L) : StepsAt w ao L ∧ ∀ o ∈ L, o.fits := by
  obtain ⟨ao', cap', he, _, hf, hc⟩ := h
  simp only [Value.slice.injEq] at he
  obtain ⟨rfl, -, rfl⟩ := he
  refine ⟨fun k hk => ?_, hf⟩
  obtain ⟨b, off, rfl, hb, hcell⟩ := hc (by intro e; subst e; simp at hk)
  exact ⟨b, off, rfl, hb, fun u hu => (hcell k hk).keep hu hb⟩

/-- How Few ends. -/
inductive FewR (n : Nat) (L : List LStepV) (w : World) (e : Ending) (w' : World) : Prop where
  | no (he : e = .returned (.bool false)) (hw : w = w')
  | yes (he : e = .returned (.bool true)) (hw : w = w') (hn : n ≤ 60) (hd : ∀ k (h : k < L.length), L[k].q.data.size ≤ 100)

set_option maxRecDepth 100000 in
set_option maxHeartbeats 2000000 in
theorem fewl_r (ao : Option Addr) (n cap : Nat) (L : List LStepV) (w : World) (hn : L.length = n) (hm : n ≤ maxLen) (hs : ∀ o ∈ L, o.fits) (HL : Hid (StepsAt w ao L)) :
    Calls Try.prog 13 #[.slice ao n cap] w (FewR n L w) := by
  have HN := Lib.hid hn
  have HS := Lib.hid hs
  unfold maxLen at hm
  clear hn hs
  go_enter Try.func13, Try.ntmps13
  go_wp2
  go_loopw [3] (fun vi wr => ∃ k : Nat, k ≤ n ∧ vi = .int .i64 k ∧ wr = w ∧ Hid (∀ j (h : j < L.length), j < k → L[j].q.data.size ≤ 100)) (fun vi _ => n - (intOf vi).toNat)
  case atStart => exact ⟨0, Nat.zero_le _, rfl, rfl, (fun j _ hj => by omega)⟩
  case round =>
    obtain ⟨k, hk, rfl, rfl, HD⟩ := hrel
    by_cases hlt : k < n
    · have hkL : k < L.length := by rw [HN.out]; exact hlt
      obtain ⟨b, off, rfl, hb, hc⟩ := HL.out k hkL
      have hsz := (HS.out _ (List.getElem_mem hkL)).2
      have hcs := hc wr (Below.refl _ _)
      unfold LStepCells at hcs
      have x8 := hcs.2.2.2.2.2.2.2.2
      clear hcs
      have HE : Hid (L[k].q.data.size ≤ 100 → ∀ j (h : j < L.length), j < k + 1 → L[j].q.data.size ≤ 100) := fun h100 j h hj => by
        by_cases e : j = k
        · subst e; exact h100
        · exact HD.out j h (by omega)
      generalize L[k].q.data = dt at x8 hsz HE
      have k0 : (0 : Int) ≤ (k : Int) := by omega
      have k1 : (k : Int) < (n : Int) := by omega
      unfold maxLen at hsz
      clear hc hkL
      by_cases h100 : 100 < dt.size
      · clear HE HD
        go_wp2
        go_returns
        exact .no rfl rfl
      · have h101 : dt.size ≤ 100 := by omega
        have HF := Lib.hid (HE.out h101)
        clear h100 HE HD
        go_wp2
        go_roundw
        case rel => exact ⟨k + 1, by omega, by go_num, by trivial, HF⟩
        case measure => simp [intOf]; omega
    · obtain rfl : k = n := by omega
      have HF : Hid (∀ j (h : j < L.length), L[j].q.data.size ≤ 100) := fun j h => HD.out j h (by rw [HN.out] at h; exact h)
      clear HD
      by_cases h60 : k ≤ 60
      · have h61 : (k : Int) ≤ 60 := by omega
        go_wp2
        go_returns
        exact .yes rfl rfl h60 HF.out
      · have h61 : ¬ (k : Int) ≤ 60 := by omega
        clear HF
        go_wp2
        go_returns
        exact .no rfl rfl

set_option maxRecDepth 100000 in
set_option maxHeartbeats 4000000 in
theorem run (qt : Int) (ao : Option Addr) (n cap : Nat) (L0 : List LStepV) (w : World) (hn : L0.length = n) (hm : n ≤ maxLen) (hs : ∀ o ∈ L0, o.fits) (HL : Hid (StepsAt w ao L0)) :
    Calls Try.prog 3 #[.int .i64 qt, .slice ao n cap] w fun e w' => e = .returned (.bool true) ∧ Below w.heap.size w w' := by
  have HT := Lib.hid (fun u => told18_any u)
  by_cases hq : 1 ≤ qt ∧ qt ≤ 100
  · obtain ⟨hq1, hq2⟩ := hq
    have H1 : Hid (Calls Try.prog 11 #[.int .i64 qt] w fun e w' => ∃ g S, e = .returned (.tuple #[.pointer (some ⟨g, 0, none⟩), .int .i64 0]) ∧ Hid (GLo w.heap.size w g qt [] 0 S w')) := (glo_new qt hq1 hq2 (Below.refl _ w) (Nat.le_refl _)).mono fun _ _ ⟨g, S, he, h⟩ => ⟨g, S, he, h.out.1⟩
    have HFw : Hid (∀ u, Below w.heap.size w u → Calls Try.prog 13 #[.slice ao n cap] u (FewR n L0 u)) := fun u hu => fewl_r ao n cap L0 u hn hm hs (show StepsAt u ao L0 from fun k hk => by
      obtain ⟨b, off, he, hb, hc⟩ := HL.out k hk
      exact ⟨b, off, he, Nat.lt_of_lt_of_le hb hu.size, fun v hv => hc v (hu.trans (hv.mono hu.size))⟩)
    have HN := Lib.hid hn
    have HS := Lib.hid hs
    have q1 : ¬ qt < 1 := by omega
    have q2 : ¬ 100 < qt := by omega
    clear hn hm hs hq1 hq2
    go_enter Try.func3, Try.ntmps3
    go_wp2_with fail
    refine H1.out.mono ?_
    rintro e w1 ⟨g, S0, rfl, G0⟩
    go_wp2_with fail
    refine (HFw.out _ G0.out.bel).mono ?_
    rintro e w2 hfew
    rcases hfew with ⟨rfl, rfl⟩ | ⟨rfl, rfl, h60, hd⟩
    · go_wp2_with fail
      refine (HT.out _).mono ?_
      rintro e w3 ⟨rfl, B3⟩
      have C3 := Lib.hid (G0.out.on B3).bel
      clear B3 G0
      go_wp2
      go_returns
      exact ⟨rfl, C3.out⟩
    · have HDT := Lib.hid hd
      clear hd H1 HFw
      obtain ⟨b, hb⟩ : ∃ b, b = w1.heap.size := ⟨_, rfl⟩
      obtain ⟨w3, hw3⟩ : ∃ w3, w3 = w1.alloc (.cells #[.int .i64 qt, .slice none 0 0, .int .i64 0] 31) := ⟨_, rfl⟩
      have P3 : Hid (LPB w.heap.size w g b qt [] 0 [] 0 S0 (.slice none 0 0) w3) := by
        rw [hw3, hb]
        exact ⟨G0.out.on ((Below.refl _ _).alloc (Nat.le_refl _) _), ⟨heap_alloc_new w1 _, World.ownsRow_nil _ _ _ _⟩, (fun hs => by have := (G0.out.all hs).2.1; omega), (fun y hy => by cases hy), G0.out.size⟩
      have HW3 := Lib.hid hw3
      have HB := Lib.hid hb
      clear hw3 hb G0
      go_upto_region 9 with fail
      rw [← HW3.out, ← HB.out]
      clear HW3 HB
      go_wp2
      go_loopw [8] (fun vi wr => ∃ (k : Nat) (L : List ReqV) (c : Nat) (S : Nat → Prop) (vq : Value), k ≤ n ∧ vi = .int .i64 k ∧ L.length ≤ k ∧ Hid (LPB w.heap.size w g b qt L c L c S vq wr)) (fun vi _ => n - (intOf vi).toNat)
      case atStart => exact ⟨0, [], 0, S0, _, Nat.zero_le _, rfl, Nat.le_refl _, P3⟩
      case round =>
        obtain ⟨k, L, c, S, vq, hk, rfl, hLk, HP⟩ := hrel
        clear P3
        by_cases hlt : k < n
        · have hkL : k < L0.length := by rw [HN.out]; exact hlt
          obtain ⟨ab, off, rfl, hab, hcell⟩ := HL.out k hkL
          have hfit := HS.out _ (List.getElem_mem hkL)
          have hdt := HDT.out k hkL
          have HX : Hid (∀ u, Below w.heap.size w u → LStepCells u ab (off + k * 9) L0[k]) := hcell
          have HDo : Hid (∀ u, LPB w.heap.size w g b qt L c L c S vq u → Calls Try.prog 14 #[.pointer (some ⟨g, 0, none⟩), .pointer (some ⟨b, 0, none⟩), .agg #[.int .i64 L0[k].kd, .int .i64 L0[k].n, .int .i64 L0[k].m, .int .i64 L0[k].q.client, .int .i64 L0[k].q.seq, .int .i64 L0[k].q.kind, .int .i64 L0[k].q.id, .int .i64 L0[k].q.mtch, .string L0[k].q.data]] u (StepR w.heap.size w g b qt (L.length + 1))) := fun u hu => by
            have hL : L.length ≤ 1000 := by omega
            have hd : L0[k].q.data.size ≤ maxLen := hfit.2
            have hw : Hid (1 ≤ L0[k].n → wrap64 (L0[k].n - 1) = L0[k].n - 1) := fun h => by
              have := hfit.1
              unfold Wf18 at this
              exact IntWalk.wrap64_in _ (by omega)
            generalize L0[k] = o at hd hw
            obtain ⟨kd, N, MM, cl, sq, kk, id, mt, dt⟩ := o
            simp only at hd hw ⊢
            by_cases e0 : kd = 0
            · subst e0; exact ldo_0 hu hL N MM cl sq kk id mt dt hd
            by_cases e1 : kd = 1
            · subst e1; exact ldo_1 hu hL N MM cl sq kk id mt dt hd hw
            by_cases e2 : kd = 2
            · subst e2; exact ldo_2 hu hL N MM cl sq kk id mt dt
            by_cases e3 : kd = 3
            · subst e3; exact ldo_3 hu hL N MM cl sq kk id mt dt
            by_cases e4 : kd = 4
            · subst e4; exact ldo_4 hu hL N MM cl sq kk id mt dt
            by_cases e5 : kd = 5
            · subst e5; exact ldo_5 hu hL N MM cl sq kk id mt dt
            exact ldo_6 hu hL kd N MM cl sq kk id mt dt (by simpa using e0) (by simpa using e1) (by simpa using e2) (by simpa using e3) (by simpa using e4) (by simpa using e5)
          generalize L0[k] = o at HX HDo hfit hdt
          obtain ⟨kd, N, MM, cl, sq, kk, id, mt, dt⟩ := o
          unfold LStepCells at HX
          simp only at HX HDo hdt
          have k0 : (0 : Int) ≤ (k : Int) := by omega
          have k1 : (k : Int) < (n : Int) := by omega
          clear hkL hcell hfit hdt
          go_upto_region 12 with fail
          obtain ⟨w4, hw4⟩ : ∃ w4, w4 = wr.drew := ⟨_, rfl⟩
          have H4 : Hid (LPB w.heap.size w g b qt L c L c S vq w4) := by rw [hw4]; exact HP.out.on ⟨rfl, rfl, rfl, Nat.le_refl _, fun _ _ => rfl⟩
          refine wp_region_held_drew (S := fun u => Below w.heap.size w u) (by kernel_rfl) ((HP.out.lo.bel.trans ⟨rfl, rfl, rfl, Nat.le_refl _, fun _ _ => rfl⟩)) (fun hHeld => ?_)
          first
            | (refine held_take 0 48 (v := ?_) rfl rfl (by kernel_rfl) (by kernel_rfl) (by kernel_rfl) (fun _ _ _ h => h) (by assumption) (by rfl) ?_ ?_; rotate_left; (focus (intro w hSw; (obtain ⟨x0, x1, x2, x3, x4, x5, x6, x7, x8⟩ := HX.out _ hSw); go_simp <;> with_reducible rfl)))
            | refine held_pass 0 48 rfl rfl (by kernel_rfl) (by kernel_rfl) (by kernel_rfl) (fun _ _ _ h => h) (by assumption) (by rfl) ?_
          simp only [Act.put, List.setIfInBounds_toArray, List.set_cons_zero, List.set_cons_succ]
          first
            | (refine held_take 1 49 (v := ?_) rfl rfl (by kernel_rfl) (by kernel_rfl) (by kernel_rfl) (fun _ _ _ h => h) (by assumption) (by rfl) ?_ ?_; rotate_left; (focus (intro w hSw; (obtain ⟨x0, x1, x2, x3, x4, x5, x6, x7, x8⟩ := HX.out _ hSw); go_simp <;> with_reducible rfl)))
            | refine held_pass 1 49 rfl rfl (by kernel_rfl) (by kernel_rfl) (by kernel_rfl) (fun _ _ _ h => h) (by assumption) (by rfl) ?_
          simp only [Act.put, List.setIfInBounds_toArray, List.set_cons_zero, List.set_cons_succ]
          first
            | (refine held_take 2 50 (v := ?_) rfl rfl (by kernel_rfl) (by kernel_rfl) (by kernel_rfl) (fun _ _ _ h => h) (by assumption) (by rfl) ?_ ?_; rotate_left; (focus (intro w hSw; (obtain ⟨x0, x1, x2, x3, x4, x5, x6, x7, x8⟩ := HX.out _ hSw); go_simp <;> with_reducible rfl)))
            | refine held_pass 2 50 rfl rfl (by kernel_rfl) (by kernel_rfl) (by kernel_rfl) (fun _ _ _ h => h) (by assumption) (by rfl) ?_
          simp only [Act.put, List.setIfInBounds_toArray, List.set_cons_zero, List.set_cons_succ]
          first
            | (refine held_take 3 51 (v := ?_) rfl rfl (by kernel_rfl) (by kernel_rfl) (by kernel_rfl) (fun _ _ _ h => h) (by assumption) (by rfl) ?_ ?_; rotate_left; (focus (intro w hSw; (obtain ⟨x0, x1, x2, x3, x4, x5, x6, x7, x8⟩ := HX.out _ hSw); go_simp <;> with_reducible rfl)))
            | refine held_pass 3 51 rfl rfl (by kernel_rfl) (by kernel_rfl) (by kernel_rfl) (fun _ _ _ h => h) (by assumption) (by rfl) ?_
          simp only [Act.put, List.setIfInBounds_toArray, List.set_cons_zero, List.set_cons_succ]
          first
            | (refine held_take 4 52 (v := ?_) rfl rfl (by kernel_rfl) (by kernel_rfl) (by kernel_rfl) (fun _ _ _ h => h) (by assumption) (by rfl) ?_ ?_; rotate_left; (focus (intro w hSw; (obtain ⟨x0, x1, x2, x3, x4, x5, x6, x7, x8⟩ := HX.out _ hSw); go_simp <;> with_reducible rfl)))
            | refine held_pass 4 52 rfl rfl (by kernel_rfl) (by kernel_rfl) (by kernel_rfl) (fun _ _ _ h => h) (by assumption) (by rfl) ?_
          simp only [Act.put, List.setIfInBounds_toArray, List.set_cons_zero, List.set_cons_succ]
          first
            | (refine held_take 5 53 (v := ?_) rfl rfl (by kernel_rfl) (by kernel_rfl) (by kernel_rfl) (fun _ _ _ h => h) (by assumption) (by rfl) ?_ ?_; rotate_left; (focus (intro w hSw; (obtain ⟨x0, x1, x2, x3, x4, x5, x6, x7, x8⟩ := HX.out _ hSw); go_simp <;> with_reducible rfl)))
            | refine held_pass 5 53 rfl rfl (by kernel_rfl) (by kernel_rfl) (by kernel_rfl) (fun _ _ _ h => h) (by assumption) (by rfl) ?_
          simp only [Act.put, List.setIfInBounds_toArray, List.set_cons_zero, List.set_cons_succ]
          refine held_call 6 54 rfl rfl (by kernel_rfl) (by rfl) (fun K hK => ?_)
          simp only [Go.wp_at_succ, Go.wp_at_zero]
          go_simp
          go_at_call 14
          rw [← hw4]
          (with_reducible refine (HDo.out _ H4.out).mono ?_)
          rintro e u5 ⟨rfl, L5, c5, S5, vq5, hl5, H5⟩
          first | (with_reducible refine hK.out _ _ ?_ (fun hHeld => ?_)) | (go_wp2_with fail; refine hK.out _ _ ?_ (fun hHeld => ?_))
          · exact H5.out.lo.bel
          clear hK K
          try simp only [Act.put, List.setIfInBounds_toArray, List.set_cons_zero, List.set_cons_succ]
          obtain ⟨a5, cp5, rfl⟩ := H5.out.rf.shape
          obtain ⟨m5, hm5⟩ : ∃ m, m = L5.length := ⟨_, rfl⟩
          have HM5 := Lib.hid hm5
          have HL5 : Hid (Calls Try.prog 15 #[.pointer (some ⟨g, 0, none⟩)] u5 fun e w' => e = .returned (.int .i64 m5) ∧ u5 = w') := by rw [hm5]; exact H5.out.lo.len
          have HZ5 : Hid (u5.cell? ⟨b, 1, none⟩ = some (.slice a5 m5 cp5) ∧ u5.cell? ⟨b, 2, none⟩ = some (.int .i64 c5)) := by rw [hm5]; exact H5.out.rf.cells.2
          clear hm5
          refine held_narrow (S' := fun u => Below w.heap.size w u ∧ u.cell? ⟨b, 1, none⟩ = some (.slice a5 m5 cp5) ∧ u.cell? ⟨b, 2, none⟩ = some (.int .i64 c5)) (fun _ h => h.1) _ _ _ _ ?_
          have hHeld2 : (fun u => Below w.heap.size w u ∧ u.cell? ⟨b, 1, none⟩ = some (.slice a5 m5 cp5) ∧ u.cell? ⟨b, 2, none⟩ = some (.int .i64 c5)) u5 := ⟨H5.out.lo.bel, HZ5.out⟩
          first
            | (refine held_take 7 55 (v := ?_) rfl rfl (by kernel_rfl) (by kernel_rfl) (by kernel_rfl) (fun _ _ _ h => h) (by assumption) (by rfl) ?_ ?_; rotate_left; (focus (intro w hSw; (obtain ⟨_, z1, z2⟩ := hSw); go_simp <;> with_reducible rfl)))
            | refine held_pass 7 55 rfl rfl (by kernel_rfl) (by kernel_rfl) (by kernel_rfl) (fun _ _ _ h => h) (by assumption) (by rfl) ?_
          simp only [Act.put, List.setIfInBounds_toArray, List.set_cons_zero, List.set_cons_succ]
          first
            | (refine held_take 8 56 (v := ?_) rfl rfl (by kernel_rfl) (by kernel_rfl) (by kernel_rfl) (fun _ _ _ h => h) (by assumption) (by rfl) ?_ ?_; rotate_left; (focus (intro w hSw; (obtain ⟨_, z1, z2⟩ := hSw); go_simp <;> with_reducible rfl)))
            | refine held_pass 8 56 rfl rfl (by kernel_rfl) (by kernel_rfl) (by kernel_rfl) (fun _ _ _ h => h) (by assumption) (by rfl) ?_
          simp only [Act.put, List.setIfInBounds_toArray, List.set_cons_zero, List.set_cons_succ]
          first
            | (refine held_take 9 57 (v := ?_) rfl rfl (by kernel_rfl) (by kernel_rfl) (by kernel_rfl) (fun _ _ _ h => h) (by assumption) (by rfl) ?_ ?_; rotate_left; (focus (intro w hSw; (obtain ⟨_, z1, z2⟩ := hSw); go_simp <;> with_reducible rfl)))
            | refine held_pass 9 57 rfl rfl (by kernel_rfl) (by kernel_rfl) (by kernel_rfl) (fun _ _ _ h => h) (by assumption) (by rfl) ?_
          simp only [Act.put, List.setIfInBounds_toArray, List.set_cons_zero, List.set_cons_succ]
          first
            | (refine held_take 11 59 (v := ?_) rfl rfl (by kernel_rfl) (by kernel_rfl) (by kernel_rfl) (fun _ _ _ h => h) (by assumption) (by rfl) ?_ ?_; rotate_left; (focus (intro w hSw; (obtain ⟨_, z1, z2⟩ := hSw); go_simp <;> with_reducible rfl)))
            | refine held_pass 11 59 rfl rfl (by kernel_rfl) (by kernel_rfl) (by kernel_rfl) (fun _ _ _ h => h) (by assumption) (by rfl) ?_
          simp only [Act.put, List.setIfInBounds_toArray, List.set_cons_zero, List.set_cons_succ]
          first
            | (refine held_take 12 60 (v := ?_) rfl rfl (by kernel_rfl) (by kernel_rfl) (by kernel_rfl) (fun _ _ _ h => h) (by assumption) (by rfl) ?_ ?_; rotate_left; (focus (intro w hSw; (obtain ⟨_, z1, z2⟩ := hSw); go_simp <;> with_reducible rfl)))
            | refine held_pass 12 60 rfl rfl (by kernel_rfl) (by kernel_rfl) (by kernel_rfl) (fun _ _ _ h => h) (by assumption) (by rfl) ?_
          simp only [Act.put, List.setIfInBounds_toArray, List.set_cons_zero, List.set_cons_succ]
          first
            | (refine held_take 13 61 (v := ?_) rfl rfl (by kernel_rfl) (by kernel_rfl) (by kernel_rfl) (fun _ _ _ h => h) (by assumption) (by rfl) ?_ ?_; rotate_left; (focus (intro w hSw; (obtain ⟨_, z1, z2⟩ := hSw); go_simp <;> with_reducible rfl)))
            | refine held_pass 13 61 rfl rfl (by kernel_rfl) (by kernel_rfl) (by kernel_rfl) (fun _ _ _ h => h) (by assumption) (by rfl) ?_
          simp only [Act.put, List.setIfInBounds_toArray, List.set_cons_zero, List.set_cons_succ]
          first
            | (refine held_take 14 62 (v := ?_) rfl rfl (by kernel_rfl) (by kernel_rfl) (by kernel_rfl) (fun _ _ _ h => h) (by assumption) (by rfl) ?_ ?_; rotate_left; (focus (intro w hSw; (obtain ⟨_, z1, z2⟩ := hSw); go_simp <;> with_reducible rfl)))
            | refine held_pass 14 62 rfl rfl (by kernel_rfl) (by kernel_rfl) (by kernel_rfl) (fun _ _ _ h => h) (by assumption) (by rfl) ?_
          simp only [Act.put, List.setIfInBounds_toArray, List.set_cons_zero, List.set_cons_succ]
          first
            | (refine held_take 15 63 (v := ?_) rfl rfl (by kernel_rfl) (by kernel_rfl) (by kernel_rfl) (fun _ _ _ h => h) (by assumption) (by rfl) ?_ ?_; rotate_left; (focus (intro w hSw; (obtain ⟨_, z1, z2⟩ := hSw); go_simp <;> with_reducible rfl)))
            | refine held_pass 15 63 rfl rfl (by kernel_rfl) (by kernel_rfl) (by kernel_rfl) (fun _ _ _ h => h) (by assumption) (by rfl) ?_
          simp only [Act.put, List.setIfInBounds_toArray, List.set_cons_zero, List.set_cons_succ]
          refine held_call 10 58 rfl rfl (by kernel_rfl) (by rfl) (fun K hK => ?_)
          simp only [Go.wp_at_succ, Go.wp_at_zero]
          go_simp
          go_at_call 15
          (with_reducible refine HL5.out.mono ?_)
          rintro e u6 ⟨rfl, rfl⟩
          first | (with_reducible refine hK.out _ _ ?_ (fun hHeld => ?_)) | (go_wp2_with fail; refine hK.out _ _ ?_ (fun hHeld => ?_))
          · exact ⟨H5.out.lo.bel, HZ5.out⟩
          clear hK K
          try simp only [Act.put, List.setIfInBounds_toArray, List.set_cons_zero, List.set_cons_succ]
          first
            | (refine held_take 16 64 (v := ?_) rfl rfl (by kernel_rfl) (by kernel_rfl) (by kernel_rfl) (fun _ _ _ h => h) (by assumption) (by rfl) ?_ ?_; rotate_left; (focus (intro w hSw; (obtain ⟨_, z1, z2⟩ := hSw); go_simp <;> with_reducible rfl)))
            | refine held_pass 16 64 rfl rfl (by kernel_rfl) (by kernel_rfl) (by kernel_rfl) (fun _ _ _ h => h) (by assumption) (by rfl) ?_
          simp only [Act.put, List.setIfInBounds_toArray, List.set_cons_zero, List.set_cons_succ]
          first
            | (refine held_take 17 65 (v := ?_) rfl rfl (by kernel_rfl) (by kernel_rfl) (by kernel_rfl) (fun _ _ _ h => h) (by assumption) (by rfl) ?_ ?_; rotate_left; (focus (intro w hSw; (obtain ⟨_, z1, z2⟩ := hSw); go_simp <;> with_reducible rfl)))
            | refine held_pass 17 65 rfl rfl (by kernel_rfl) (by kernel_rfl) (by kernel_rfl) (fun _ _ _ h => h) (by assumption) (by rfl) ?_
          simp only [Act.put, List.setIfInBounds_toArray, List.set_cons_zero, List.set_cons_succ]
          first
            | (refine held_take 18 66 (v := ?_) rfl rfl (by kernel_rfl) (by kernel_rfl) (by kernel_rfl) (fun _ _ _ h => h) (by assumption) (by rfl) ?_ ?_; rotate_left; (focus (intro w hSw; (obtain ⟨_, z1, z2⟩ := hSw); go_simp <;> with_reducible rfl)))
            | refine held_pass 18 66 rfl rfl (by kernel_rfl) (by kernel_rfl) (by kernel_rfl) (fun _ _ _ h => h) (by assumption) (by rfl) ?_
          simp only [Act.put, List.setIfInBounds_toArray, List.set_cons_zero, List.set_cons_succ]
          first
            | (refine held_take 19 67 (v := ?_) rfl rfl (by kernel_rfl) (by kernel_rfl) (by kernel_rfl) (fun _ _ _ h => h) (by assumption) (by rfl) ?_ ?_; rotate_left; (focus (intro w hSw; (obtain ⟨_, z1, z2⟩ := hSw); go_simp <;> with_reducible rfl)))
            | refine held_pass 19 67 rfl rfl (by kernel_rfl) (by kernel_rfl) (by kernel_rfl) (fun _ _ _ h => h) (by assumption) (by rfl) ?_
          simp only [Act.put, List.setIfInBounds_toArray, List.set_cons_zero, List.set_cons_succ]
          first
            | (refine held_take 21 69 (v := ?_) rfl rfl (by kernel_rfl) (by kernel_rfl) (by kernel_rfl) (fun _ _ _ h => h) (by assumption) (by rfl) ?_ ?_; rotate_left; (focus (intro w hSw; (obtain ⟨_, z1, z2⟩ := hSw); go_simp <;> with_reducible rfl)))
            | refine held_pass 21 69 rfl rfl (by kernel_rfl) (by kernel_rfl) (by kernel_rfl) (fun _ _ _ h => h) (by assumption) (by rfl) ?_
          simp only [Act.put, List.setIfInBounds_toArray, List.set_cons_zero, List.set_cons_succ]
          first
            | (refine held_take 22 70 (v := ?_) rfl rfl (by kernel_rfl) (by kernel_rfl) (by kernel_rfl) (fun _ _ _ h => h) (by assumption) (by rfl) ?_ ?_; rotate_left; (focus (intro w hSw; (obtain ⟨_, z1, z2⟩ := hSw); go_simp <;> with_reducible rfl)))
            | refine held_pass 22 70 rfl rfl (by kernel_rfl) (by kernel_rfl) (by kernel_rfl) (fun _ _ _ h => h) (by assumption) (by rfl) ?_
          simp only [Act.put, List.setIfInBounds_toArray, List.set_cons_zero, List.set_cons_succ]
          first
            | (refine held_take 23 71 (v := ?_) rfl rfl (by kernel_rfl) (by kernel_rfl) (by kernel_rfl) (fun _ _ _ h => h) (by assumption) (by rfl) ?_ ?_; rotate_left; (focus (intro w hSw; (obtain ⟨_, z1, z2⟩ := hSw); go_simp <;> with_reducible rfl)))
            | refine held_pass 23 71 rfl rfl (by kernel_rfl) (by kernel_rfl) (by kernel_rfl) (fun _ _ _ h => h) (by assumption) (by rfl) ?_
          simp only [Act.put, List.setIfInBounds_toArray, List.set_cons_zero, List.set_cons_succ]
          first
            | (refine held_take 24 72 (v := ?_) rfl rfl (by kernel_rfl) (by kernel_rfl) (by kernel_rfl) (fun _ _ _ h => h) (by assumption) (by rfl) ?_ ?_; rotate_left; (focus (intro w hSw; (obtain ⟨_, z1, z2⟩ := hSw); go_simp <;> with_reducible rfl)))
            | refine held_pass 24 72 rfl rfl (by kernel_rfl) (by kernel_rfl) (by kernel_rfl) (fun _ _ _ h => h) (by assumption) (by rfl) ?_
          simp only [Act.put, List.setIfInBounds_toArray, List.set_cons_zero, List.set_cons_succ]
          refine held_call 20 68 rfl rfl (by kernel_rfl) (by rfl) (fun K hK => ?_)
          simp only [Go.wp_at_succ, Go.wp_at_zero]
          go_simp
          go_at_call 16
          (with_reducible refine H5.out.lo.com.mono ?_)
          rintro e u6 ⟨rfl, rfl⟩
          first | (with_reducible refine hK.out _ _ ?_ (fun hHeld => ?_)) | (go_wp2_with fail; refine hK.out _ _ ?_ (fun hHeld => ?_))
          · exact ⟨H5.out.lo.bel, HZ5.out⟩
          clear hK K
          try simp only [Act.put, List.setIfInBounds_toArray, List.set_cons_zero, List.set_cons_succ]
          first
            | (refine held_take 25 73 (v := ?_) rfl rfl (by kernel_rfl) (by kernel_rfl) (by kernel_rfl) (fun _ _ _ h => h) (by assumption) (by rfl) ?_ ?_; rotate_left; (focus (intro w hSw; (obtain ⟨_, z1, z2⟩ := hSw); go_simp <;> with_reducible rfl)))
            | refine held_pass 25 73 rfl rfl (by kernel_rfl) (by kernel_rfl) (by kernel_rfl) (fun _ _ _ h => h) (by assumption) (by rfl) ?_
          simp only [Act.put, List.setIfInBounds_toArray, List.set_cons_zero, List.set_cons_succ]
          first
            | (refine held_take 26 74 (v := ?_) rfl rfl (by kernel_rfl) (by kernel_rfl) (by kernel_rfl) (fun _ _ _ h => h) (by assumption) (by rfl) ?_ ?_; rotate_left; (focus (intro w hSw; (obtain ⟨_, z1, z2⟩ := hSw); go_simp <;> with_reducible rfl)))
            | refine held_pass 26 74 rfl rfl (by kernel_rfl) (by kernel_rfl) (by kernel_rfl) (fun _ _ _ h => h) (by assumption) (by rfl) ?_
          simp only [Act.put, List.setIfInBounds_toArray, List.set_cons_zero, List.set_cons_succ]
          refine wpAnyH_done (by kernel_rfl) ?_ _
          have H6 := Lib.hid H5.out
          clear H5 H4 HP HDo HX
          go_wp2
          go_roundw
          case rel => exact ⟨k + 1, L5, c5, S5, _, by omega, by go_num, by omega, H6⟩
          case measure => simp [intOf]; omega
        · obtain rfl : k = n := by omega
          have hL1 : L.length ≤ 100000 := by omega
          obtain ⟨m, hmm⟩ : ∃ m, m = L.length := ⟨_, rfl⟩
          have HMM := Lib.hid hmm
          obtain ⟨a, cp, rfl⟩ := HP.out.rf.shape
          have hcome : comeQ L 0 (cntQ L 0 1000) = L := by
            unfold comeQ cntQ
            rw [List.drop_zero, show min (L.length - 0) (1000 : Int).toNat = L.length from by have : (1000 : Int).toNat = 1000 := rfl; omega, List.take_length]
          have HSi : Hid (∀ u, LPB w.heap.size w g b qt L c L c S (.slice a L.length cp) u → Calls Try.prog 18 #[.pointer (some ⟨g, 0, none⟩), .int .i64 0, .int .i64 1000] u (SinceR L u)) := fun u hu => by
            have h := hu.lo.since hL1 0 1000
            rwa [hcome] at h
          rw [← hmm] at HP HSi
          have hm1 : m ≤ 1000000 := by omega
          have HZ : Hid (∀ u, LPB w.heap.size w g b qt L c L c S (.slice a m cp) u → u.cell? ⟨b, 1, none⟩ = some (.slice a m cp)) := fun u hu => hu.rf.cells.2.1
          clear hcome hmm hL1 HL HS HN HDT hLk
          go_upto_region 14 with fail
          obtain ⟨w4, hw4⟩ : ∃ w4, w4 = wr.drew := ⟨_, rfl⟩
          have H4 : Hid (LPB w.heap.size w g b qt L c L c S (.slice a m cp) w4) := by rw [hw4]; exact HP.out.on ⟨rfl, rfl, rfl, Nat.le_refl _, fun _ _ => rfl⟩
          refine wp_region_held_drew (S := fun u => LPB w.heap.size w g b qt L c L c S (.slice a m cp) u) (by kernel_rfl) ((HP.out.on ⟨rfl, rfl, rfl, Nat.le_refl _, fun _ _ => rfl⟩)) (fun hHeld => ?_)
          refine held_call 0 75 rfl rfl (by kernel_rfl) (by rfl) (fun K hK => ?_)
          simp only [Go.wp_at_zero]
          go_simp
          go_at_call 12
          rw [← hw4]
          (with_reducible refine (HT.out _).mono ?_)
          rintro e u5 ⟨rfl, hb5⟩
          have H5 := Lib.hid (H4.out.on hb5)
          clear hb5
          first | (with_reducible refine hK.out _ _ ?_ (fun hHeld => ?_)) | (go_wp2_with fail; refine hK.out _ _ ?_ (fun hHeld => ?_))
          · exact H5.out
          clear hK K
          try simp only [Act.put, List.setIfInBounds_toArray, List.set_cons_zero, List.set_cons_succ]
          first
            | (refine held_take 1 76 (v := ?_) rfl rfl (by kernel_rfl) (by kernel_rfl) (by kernel_rfl) (fun _ _ _ h => h) (by assumption) (by rfl) ?_ ?_; rotate_left; (focus (intro w hSw; (have z1 := HZ.out _ hSw); go_simp <;> with_reducible rfl)))
            | refine held_pass 1 76 rfl rfl (by kernel_rfl) (by kernel_rfl) (by kernel_rfl) (fun _ _ _ h => h) (by assumption) (by rfl) ?_
          simp only [Act.put, List.setIfInBounds_toArray, List.set_cons_zero, List.set_cons_succ]
          first
            | (refine held_take 2 77 (v := ?_) rfl rfl (by kernel_rfl) (by kernel_rfl) (by kernel_rfl) (fun _ _ _ h => h) (by assumption) (by rfl) ?_ ?_; rotate_left; (focus (intro w hSw; (have z1 := HZ.out _ hSw); go_simp <;> with_reducible rfl)))
            | refine held_pass 2 77 rfl rfl (by kernel_rfl) (by kernel_rfl) (by kernel_rfl) (fun _ _ _ h => h) (by assumption) (by rfl) ?_
          simp only [Act.put, List.setIfInBounds_toArray, List.set_cons_zero, List.set_cons_succ]
          first
            | (refine held_take 4 79 (v := ?_) rfl rfl (by kernel_rfl) (by kernel_rfl) (by kernel_rfl) (fun _ _ _ h => h) (by assumption) (by rfl) ?_ ?_; rotate_left; (focus (intro w hSw; (have z1 := HZ.out _ hSw); go_simp <;> with_reducible rfl)))
            | refine held_pass 4 79 rfl rfl (by kernel_rfl) (by kernel_rfl) (by kernel_rfl) (fun _ _ _ h => h) (by assumption) (by rfl) ?_
          simp only [Act.put, List.setIfInBounds_toArray, List.set_cons_zero, List.set_cons_succ]
          first
            | (refine held_take 5 80 (v := ?_) rfl rfl (by kernel_rfl) (by kernel_rfl) (by kernel_rfl) (fun _ _ _ h => h) (by assumption) (by rfl) ?_ ?_; rotate_left; (focus (intro w hSw; (have z1 := HZ.out _ hSw); go_simp <;> with_reducible rfl)))
            | refine held_pass 5 80 rfl rfl (by kernel_rfl) (by kernel_rfl) (by kernel_rfl) (fun _ _ _ h => h) (by assumption) (by rfl) ?_
          simp only [Act.put, List.setIfInBounds_toArray, List.set_cons_zero, List.set_cons_succ]
          first
            | (refine held_take 6 81 (v := ?_) rfl rfl (by kernel_rfl) (by kernel_rfl) (by kernel_rfl) (fun _ _ _ h => h) (by assumption) (by rfl) ?_ ?_; rotate_left; (focus (intro w hSw; (have z1 := HZ.out _ hSw); go_simp <;> with_reducible rfl)))
            | refine held_pass 6 81 rfl rfl (by kernel_rfl) (by kernel_rfl) (by kernel_rfl) (fun _ _ _ h => h) (by assumption) (by rfl) ?_
          simp only [Act.put, List.setIfInBounds_toArray, List.set_cons_zero, List.set_cons_succ]
          first
            | (refine held_take 7 82 (v := ?_) rfl rfl (by kernel_rfl) (by kernel_rfl) (by kernel_rfl) (fun _ _ _ h => h) (by assumption) (by rfl) ?_ ?_; rotate_left; (focus (intro w hSw; (have z1 := HZ.out _ hSw); go_simp <;> with_reducible rfl)))
            | refine held_pass 7 82 rfl rfl (by kernel_rfl) (by kernel_rfl) (by kernel_rfl) (fun _ _ _ h => h) (by assumption) (by rfl) ?_
          simp only [Act.put, List.setIfInBounds_toArray, List.set_cons_zero, List.set_cons_succ]
          refine held_call 3 78 rfl rfl (by kernel_rfl) (by rfl) (fun K hK => ?_)
          simp only [Go.wp_at_succ, Go.wp_at_zero]
          go_simp
          go_at_call 18
          (with_reducible refine (HSi.out _ H5.out).mono ?_)
          rintro e u6 ⟨v6, he6, r6, b6⟩
          obtain ⟨a6, cp6, hv6⟩ := own_shape r6
          rw [← HMM.out] at hv6
          subst hv6
          subst he6
          have R6 := Lib.hid (AllAt.of r6)
          have H6 := Lib.hid (H5.out.on b6)
          have Q6 : Hid (AllAt (.slice a m cp) L u6) := H6.out.rf.all
          clear r6 b6
          first | (with_reducible refine hK.out _ _ ?_ (fun hHeld => ?_)) | (go_wp2_with fail; refine hK.out _ _ ?_ (fun hHeld => ?_))
          · exact H6.out
          clear hK K
          try simp only [Act.put, List.setIfInBounds_toArray, List.set_cons_zero, List.set_cons_succ]
          refine held_call 8 83 rfl rfl (by kernel_rfl) (by rfl) (fun K hK => ?_)
          simp only [Go.wp_at_succ, Go.wp_at_zero]
          go_simp
          go_at_call 17
          (with_reducible refine (refreqs_same a6 a m cp6 cp L u6 HMM.out hm1 R6.out Q6.out).mono ?_)
          rintro e u7 ⟨rfl, b7⟩
          have H7 := Lib.hid (H6.out.on b7)
          clear b7
          first | (with_reducible refine hK.out _ _ ?_ (fun hHeld => ?_)) | (go_wp2_with fail; refine hK.out _ _ ?_ (fun hHeld => ?_))
          · exact H7.out
          clear hK K
          try simp only [Act.put, List.setIfInBounds_toArray, List.set_cons_zero, List.set_cons_succ]
          first
            | (refine held_take 9 84 (v := ?_) rfl rfl (by kernel_rfl) (by kernel_rfl) (by kernel_rfl) (fun _ _ _ h => h) (by assumption) (by rfl) ?_ ?_; rotate_left; (focus (intro w hSw; (have z1 := HZ.out _ hSw); go_simp <;> with_reducible rfl)))
            | refine held_pass 9 84 rfl rfl (by kernel_rfl) (by kernel_rfl) (by kernel_rfl) (fun _ _ _ h => h) (by assumption) (by rfl) ?_
          simp only [Act.put, List.setIfInBounds_toArray, List.set_cons_zero, List.set_cons_succ]
          first
            | (refine held_take 10 4 (v := ?_) rfl rfl (by kernel_rfl) (by kernel_rfl) (by kernel_rfl) (fun _ _ _ h => h) (by assumption) (by rfl) ?_ ?_; rotate_left; (focus (intro w hSw; (have z1 := HZ.out _ hSw); go_simp <;> with_reducible rfl)))
            | refine held_pass 10 4 rfl rfl (by kernel_rfl) (by kernel_rfl) (by kernel_rfl) (fun _ _ _ h => h) (by assumption) (by rfl) ?_
          simp only [Act.put, List.setIfInBounds_toArray, List.set_cons_zero, List.set_cons_succ]
          refine wpAnyH_done (by kernel_rfl) ?_ _
          have C7 := Lib.hid H7.out.lo.bel
          clear H7 H6 H5 H4 HP
          go_wp2
          go_returns
          exact ⟨by simp, C7.out⟩
  · have H1 : Hid (Calls Try.prog 11 #[.int .i64 qt] w fun e w' => e = .returned (.tuple #[.pointer none, .int .i64 1]) ∧ Below w.heap.size w w') := (lnew_no qt (by omega) w).mono fun _ _ ⟨he, hw⟩ => ⟨he, hw ▸ Below.refl _ _⟩
    clear hn hm hs HL
    by_cases h1 : qt < 1
    · clear hq
      go_enter Try.func3, Try.ntmps3
      go_wp2_with fail
      refine H1.out.mono ?_
      rintro e w1 ⟨rfl, b1⟩
      have B1 := Lib.hid b1
      clear b1
      go_wp2_with fail
      refine (HT.out _).mono ?_
      rintro e w2 ⟨rfl, b2⟩
      have B2 := Lib.hid (B1.out.trans (b2.mono B1.out.size))
      clear b2
      go_wp2
      go_returns
      exact ⟨rfl, B2.out⟩
    · have h2 : 100 < qt := by omega
      have h3 : 1 ≤ qt := by omega
      clear hq h1
      go_enter Try.func3, Try.ntmps3
      go_wp2_with fail
      refine H1.out.mono ?_
      rintro e w1 ⟨rfl, b1⟩
      have B1 := Lib.hid b1
      clear b1
      go_wp2_with fail
      refine (HT.out _).mono ?_
      rintro e w2 ⟨rfl, b2⟩
      have B2 := Lib.hid (B1.out.trans (b2.mono B1.out.size))
      clear b2
      go_wp2
      go_returns
      exact ⟨rfl, B2.out⟩

theorem walk (qt : Int) (v : Value) (L : List LStepV) (w : World) (_ : (Lit.int .i64 qt).wf = true) (hV : LSteps w w.heap.size v L) :
    Calls Try.prog 3 #[.int .i64 qt, v] w fun e w' => e = .returned (.bool true) ∧ Below w.heap.size w w' := by
  have hV' := hV
  obtain ⟨ao, cap, rfl, hm, _⟩ := hV
  obtain ⟨hat, hf⟩ := steps_at hV'
  exact run qt ao _ cap L w rfl hm hf hat

set_option maxRecDepth 100000 in
theorem lifted (os : Os) (started : os.Started) (H : Type) (enc : TypeId × Value → H) :
    ReturnsInHanded {} Try.checked os 3 .any (Rows.linePlaysSpec.pre6 enc Try.prog Try.f3 Rows.linePlaysRow.domain false) (Rows.linePlaysSpec.post enc Try.prog Try.f3 false true false false) := by
  refine returnsInHanded_of_change (C := Try.checked) own started (by kernel_rfl) Try.func3
    (ChangeSpec.witness6 (enc := enc) (C := Try.checked) false ⟨#[], #[.int .i64 0, .slice none 0 0], []⟩ 8 (by kernel_rfl) (by kernel_rfl) (by kernel_rfl) (by kernel_rfl)) ?_
  intro W base args ds gs before hval0 hW hcnd _
  have hval : ∀ (j : Nat) t v, Try.f3.params[j]? = some t → args[j]? = some v → Value.okWide Try.prog W .any base t v := hval0
  have hW' := hW
  obtain ⟨p, q, hA0, hV, rfl, hfz, hnd⟩ := hW
  have hA : DataW.TrodAll enc Try.prog W 0 (fun _ => true) true Try.f3.params.toList args.toList ds p := hA0
  rw [Try.params3] at hA hval
  obtain ⟨v0, vs0, d0, ds0, p0, q0, hargs, rfl, rfl, h0, r0⟩ := trodAll_cons hA
  obtain ⟨v1, vs1, d1, ds1, p1, q1, rfl, rfl, rfl, h1, r1⟩ := trodAll_cons r0
  obtain ⟨rfl, rfl, rfl⟩ := trodAll_nil r1
  obtain rfl : args = #[v0, v1] := by cases args; simp_all
  obtain ⟨rfl, rfl⟩ := trodVars_none hV
  obtain ⟨a0, rfl, rfl, rfl, w0⟩ := open_int Try.underlying3 (hval 0 3 v0 rfl rfl) h0
  obtain ⟨a1, len1, cap1, rfl⟩ := okWide_slice Try.underlying22 (hval 1 22 v1 rfl rfl)
  have k1 := h1
  have lt1 : ∀ x ∈ p1, x.block < W.heap.size := by obtain ⟨m, hm⟩ := k1; exact DataW.trod_lt m _ _ _ hm
  obtain ⟨l1, w1⟩ := lsteps_open h1
  clear hA0 hval0
  refine (walk a0 (.slice a1 len1 cap1) l1 W w0 w1).mono fun e W' ⟨he, bel⟩ => ?_
  subst he
  exact ⟨_, rfl, _, _, _, [], _, [], hW', trodAll_mk1 (shut_bool Try.underlying4 _), (trodAll_cons_mk (shut_int Try.underlying3 w0) (trodAll_cons_mk (Below.trod laidOut (by kernel_rfl) (of_decide_eq_true (by kernel_rfl)) k1 bel lt1) trodAll_mk0)), rfl, bel.frame _, fun h => by cases h⟩

theorem over : Rows.linePlaysRow.holds Try.pinned (OpenSpec.ofChange Rows.linePlaysSpec) :=
  OpenClaim.holds_of_wide 3 Try.f3 rfl rfl rfl rfl rfl rfl rfl ⟨rfl, rfl, rfl, rfl, rfl⟩ rfl rfl rfl rfl rfl (by kernel_rfl) Try.func3 (by kernel_rfl)
    (of_decide_eq_true (by kernel_rfl)) (by unfold Func.isWrapper; first | (rw [if_pos (by decide +kernel)]; kernel_rfl) | (rw [if_neg (by decide +kernel)]; exact ⟨rfl, rfl⟩))
    (fun os started H enc _ => lifted os started H enc)
end Go.Proofs.Ytenjjgghoacboaa.LinePlays

namespace Go.Proofs.Ytenjjgghoacboaa
theorem linePlays_holds : Rows.LinePlaysSaid := LinePlays.over
#print axioms linePlays_holds
end Go.Proofs.Ytenjjgghoacboaa
