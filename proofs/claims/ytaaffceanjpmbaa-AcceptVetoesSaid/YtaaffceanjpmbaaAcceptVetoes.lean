/-
  PROVED: casebooklaw13.AcceptVetoes answers true and leaves its arguments as they were, for any steps, any chain, any ballot: the row's own reading and nothing else is assumed.
-/
import Derived.Test.YtaaffceanjpmbaaAccT
import Derived.Test.YtaaffceanjpmbaaAccArgs
namespace Go.Proofs.Ytaaffceanjpmbaa.AcceptVetoes
open Go.ChangeShapes Go.WideShapes Go.ChangeAt Go.RowKit

/-- With a veto: told so just if it is accepted without; else the same error. -/
theorem acc_veto (s : AccV) (ec : Int) (L : List Int) (r k : Int) : (accE s ec L r k true = 8 ∧ accE s ec L r k false = 0) ∨ ∃ e, e ≠ 0 ∧ e ≠ 8 ∧ accE s ec L r k true = e ∧ accE s ec L r k false = e := by
  unfold accE
  split; · exact .inr ⟨1, by decide, by decide, rfl, rfl⟩
  split; · exact .inr ⟨7, by decide, by decide, rfl, rfl⟩
  split; · exact .inr ⟨4, by decide, by decide, rfl, rfl⟩
  split; · exact .inr ⟨1, by decide, by decide, rfl, rfl⟩
  split; · exact .inr ⟨7, by decide, by decide, rfl, rfl⟩
  exact .inl ⟨rfl, rfl⟩

set_option maxRecDepth 100000 in
set_option maxHeartbeats 16000000 in
theorem walk (v : Value) (l : List AStepV) (ec : Int) (vv : Value) (L : List Int) (r k : Int) (w : World) (hS : ASteps w w.heap.size v l) (hI : Ints w w.heap.size vv L) (_ : (Lit.int .i64 r).wf = true) (_ : (Lit.int .i64 k).wf = true) :
    Calls Try.prog 8 #[v, .agg #[.int .i64 ec, vv], .agg #[.int .i64 r, .int .i64 k]] w fun e w' => e = .returned (.bool true) ∧ Below w.heap.size w w' := by
  have HT := Lib.hid (fun u => told13_any u)
  obtain ⟨ao, cap, rfl, hlm, hfit, hcells⟩ := hS
  obtain ⟨q, hq⟩ : ∃ q, q = l.length := ⟨_, rfl⟩
  obtain ⟨ca, cc, rfl⟩ : ∃ a c, vv = .slice a L.length c := by obtain ⟨a, c, h, _⟩ := hI; exact ⟨a, c, h⟩
  obtain ⟨m, hm⟩ : ∃ m, m = L.length := ⟨_, rfl⟩
  obtain ⟨W, hW⟩ : ∃ W, W = (w.alloc (.cells #[.int .i64 ec, .slice ca L.length cc] 28)).alloc (.cells #[.int .i64 r, .int .i64 k] 30) := ⟨_, rfl⟩
  have hbW : Below w.heap.size w W := by rw [hW]; exact ((Below.refl _ _).alloc (Nat.le_refl _) _).alloc (by simp) _
  obtain ⟨n, hn⟩ : ∃ n, n = W.heap.size := ⟨_, rfl⟩
  have cW : ChT W w.heap.size ec (.slice ca L.length cc) := by rw [hW]; exact (ChT.fresh w _ _).keep ((Below.refl _ _).alloc (Nat.le_refl _) _) (by simp)
  have qW : BalB W (w.heap.size + 1) r k := by
    rw [hW]
    have h := BalB.fresh (w.alloc (.cells #[.int .i64 ec, .slice ca L.length cc] 28)) r k
    rwa [World.size_alloc] at h
  have HCB : Hid (∀ u, Below n W u → ChT u w.heap.size ec (.slice ca m cc) ∧ BalB u (w.heap.size + 1) r k) := fun u hu => by
    rw [hm]
    exact ⟨cW.keep hu (by rw [hn]; exact cW.lt), qW.keep hu (by rw [hn]; exact qW.lt)⟩
  have HFIT : Hid (∀ o ∈ l, Ints W n o.v o.L) := fun o ho => ((hfit o ho).2.keep hbW).mono (by rw [hn]; exact hbW.size)
  have HIC : Hid (Ints W n (.slice ca m cc) L) := by
    show Ints _ _ _ _
    rw [hm]
    exact (hI.keep hbW).mono (by rw [hn]; exact hbW.size)
  have HCELLS : Hid (l ≠ [] → ∃ b off, ao = some ⟨b, off, none⟩ ∧ ∀ i (h : i < l.length), ∀ u, Below n W u → AStepCells u b (off + i * 7) l[i]) := fun hne => by
    obtain ⟨b, off, e, hb, hc⟩ := hcells hne
    exact ⟨b, off, e, fun i hi u hu => (hc i hi).keep (hbW.trans (hu.mono (by rw [hn]; exact hbW.size))) hb⟩
  have HBW := Lib.hid hbW
  have HNL : Hid (w.heap.size ≤ n) := by show _ ≤ _; rw [hn]; exact hbW.size
  have HQL := Lib.hid hq
  have HN : Hid (Calls Try.prog 9 #[.int .i64 4] W fun e w' => ∃ p, e = .returned (.tuple #[.pointer (some ⟨p, 0, none⟩), .int .i64 0]) ∧ Hid (AO n W p (AccV.first 4) w' ∧ Below W.heap.size W w')) := ao_new 4 (by decide) (by decide) (Below.refl _ _) (by omega)
  rw [← hq, ← hm]
  rw [← hm] at hW
  have HW := Lib.hid hW
  have HM1 := Lib.hid hm
  clear hq hn hfit hcells hlm hI hW hm hbW cW qW
  by_cases h30 : (30 : Int) < (q : Int)
  · go_enter Try.func8, Try.ntmps8
    go_wp2_with fail
    rw [← HW.out]
    refine HN.out.mono ?_
    rintro e w1 ⟨p, rfl, H1⟩
    go_wp2_with fail
    refine (HT.out _).mono ?_
    rintro e w3 ⟨rfl, B3⟩
    have A4 := Lib.hid (H1.out.1.on B3)
    clear B3
    go_wp2
    go_returns
    exact ⟨rfl, HBW.out.trans (A4.out.bel.mono HNL.out)⟩
  by_cases h8c : (8 : Int) < (m : Int)
  · go_enter Try.func8, Try.ntmps8
    go_wp2_with fail
    rw [← HW.out]
    refine HN.out.mono ?_
    rintro e w1 ⟨p, rfl, H1⟩
    obtain ⟨g0, g1, _, _⟩ := (HCB.out _ H1.out.1.bel).1.cells
    go_wp2_with fail
    refine (HT.out _).mono ?_
    rintro e w3 ⟨rfl, B3⟩
    have A4 := Lib.hid (H1.out.1.on B3)
    clear B3
    go_wp2
    go_returns
    exact ⟨rfl, HBW.out.trans (A4.out.bel.mono HNL.out)⟩
  have hL8 : L.length ≤ 8 := by have := HM1.out; omega
  go_enter Try.func8, Try.ntmps8
  go_wp2_with fail
  rw [← HW.out]
  refine HN.out.mono ?_
  rintro e w1 ⟨p, rfl, H1⟩
  obtain ⟨g0, g1, _, _⟩ := (HCB.out _ H1.out.1.bel).1.cells
  go_wp2_with fail
  clear g0 g1
  go_loopw [9] (fun s9 wr => ∃ (i : Nat) (s : AccV), i ≤ q ∧ s9 = .int .i64 i ∧ Hid (AO n W p s wr)) (fun s9 _ => q - (intOf s9).toNat)
  case atStart => exact ⟨0, AccV.first 4, by omega, rfl, H1.out.1⟩
  case round =>
    obtain ⟨i, s, hiq, rfl, HR⟩ := hrel
    clear H1
    have i0 : (0 : Int) ≤ (i : Int) := by omega
    by_cases hlt : i < q
    case neg =>
      have hle1 : ¬ ((i : Int) < (q : Int)) := by omega
      obtain ⟨z, hz⟩ : ∃ z, z = txt s.bytes := ⟨_, rfl⟩
      have HBY : Hid (∀ u, AO n W p s u → Calls Try.prog 17 #[.pointer (some ⟨p, 0, none⟩)] u fun e w' => ∃ a m c, e = .returned (.slice a m c) ∧ Hid ((convert 42 9 (.slice a m c)).run Try.prog w' = .ok (.string z) w' ∧ AO n W p s w')) := fun u hu => (ao_bytes hu).mono fun _ _ ⟨a, m, c, he, hh⟩ => ⟨a, m, c, he, by rw [hz]; exact run_conv_byt hh.out.1, hh.out.2.1⟩
      clear hz
      rcases acc_veto s ec L r k with ⟨het, hef⟩ | ⟨er, n0, n8, het, hef⟩
      · have HAt : Hid (∀ u, AO n W p s u → Calls Try.prog 16 #[.pointer (some ⟨p, 0, none⟩), .agg #[.int .i64 ec, .slice ca m cc], .agg #[.int .i64 r, .int .i64 k], .bool true] u fun e w' => e = .returned (.int .i64 8) ∧ Hid (AO n W p (accS s ec L r k true) w')) := fun u hu => (ao_acc hu ec _ L n (HIC.out.keep hu.bel) hu.size (by omega) r k true rfl het).mono fun _ _ ⟨q1, q2⟩ => ⟨q1, q2.out.1⟩
        have HAf : Hid (∀ u, AO n W p s u → Calls Try.prog 16 #[.pointer (some ⟨p, 0, none⟩), .agg #[.int .i64 ec, .slice ca m cc], .agg #[.int .i64 r, .int .i64 k], .bool false] u fun e w' => e = .returned (.int .i64 0) ∧ Hid (AO n W p (accS s ec L r k false) w')) := fun u hu => (ao_acc hu ec _ L n (HIC.out.keep hu.bel) hu.size (by omega) r k false rfl hef).mono fun _ _ ⟨q1, q2⟩ => ⟨q1, q2.out.1⟩
        have hsame : accS s ec L r k true = s := by rw [accS, if_neg (by rw [het]; decide)]
        rw [hsame] at HAt
        clear het hef hsame
        go_wp2_with fail
        refine (HBY.out _ HR.out).mono ?_
        rintro e w2 ⟨a2, m2, c2, rfl, H2⟩
        have hk := H2.out.1
        have A2 := Lib.hid H2.out.2
        obtain ⟨g0, g1, _, _⟩ := (HCB.out w2 A2.out.bel).1.cells
        obtain ⟨g2, g3, _, _⟩ := (HCB.out w2 A2.out.bel).2.cells
        go_wp2_with fail
        refine (HAt.out _ A2.out).mono ?_
        rintro e w3 ⟨rfl, A3⟩
        clear g0 g1 g2 g3 hk
        go_wp2_with fail
        refine (HBY.out _ A3.out).mono ?_
        rintro e w4 ⟨a4, m4, c4, rfl, H4⟩
        have hk := H4.out.1
        have A4 := Lib.hid H4.out.2
        obtain ⟨g0, g1, _, _⟩ := (HCB.out w4 A4.out.bel).1.cells
        obtain ⟨g2, g3, _, _⟩ := (HCB.out w4 A4.out.bel).2.cells
        go_wp2_with fail
        refine (HAf.out _ A4.out).mono ?_
        rintro e w5 ⟨rfl, A5⟩
        clear g0 g1 g2 g3 hk
        go_wp2_with fail
        refine (HT.out _).mono ?_
        rintro e w6 ⟨rfl, B6⟩
        have A6 := Lib.hid (A5.out.on B6)
        clear B6
        go_wp2
        go_returns
        exact ⟨rfl, HBW.out.trans (A6.out.bel.mono HNL.out)⟩
      · have HAt : Hid (∀ u, AO n W p s u → Calls Try.prog 16 #[.pointer (some ⟨p, 0, none⟩), .agg #[.int .i64 ec, .slice ca m cc], .agg #[.int .i64 r, .int .i64 k], .bool true] u fun e w' => e = .returned (.int .i64 er) ∧ Hid (AO n W p (accS s ec L r k true) w')) := fun u hu => (ao_acc hu ec _ L n (HIC.out.keep hu.bel) hu.size (by omega) r k true rfl het).mono fun _ _ ⟨q1, q2⟩ => ⟨q1, q2.out.1⟩
        have HAf : Hid (∀ u, AO n W p s u → Calls Try.prog 16 #[.pointer (some ⟨p, 0, none⟩), .agg #[.int .i64 ec, .slice ca m cc], .agg #[.int .i64 r, .int .i64 k], .bool false] u fun e w' => e = .returned (.int .i64 er) ∧ Hid (AO n W p (accS s ec L r k false) w')) := fun u hu => (ao_acc hu ec _ L n (HIC.out.keep hu.bel) hu.size (by omega) r k false rfl hef).mono fun _ _ ⟨q1, q2⟩ => ⟨q1, q2.out.1⟩
        have hsame : accS s ec L r k true = s := by rw [accS, if_neg (by rw [het]; exact n0)]
        rw [hsame] at HAt
        have q0 : (er == 0) = false := beq_eq_false_iff_ne.2 n0
        have q8 : (er == 8) = false := beq_eq_false_iff_ne.2 n8
        clear het hef hsame n0 n8
        go_wp2_with fail
        refine (HBY.out _ HR.out).mono ?_
        rintro e w2 ⟨a2, m2, c2, rfl, H2⟩
        have hk := H2.out.1
        have A2 := Lib.hid H2.out.2
        obtain ⟨g0, g1, _, _⟩ := (HCB.out w2 A2.out.bel).1.cells
        obtain ⟨g2, g3, _, _⟩ := (HCB.out w2 A2.out.bel).2.cells
        go_wp2_with fail
        refine (HAt.out _ A2.out).mono ?_
        rintro e w3 ⟨rfl, A3⟩
        clear g0 g1 g2 g3 hk
        go_wp2_with fail
        refine (HBY.out _ A3.out).mono ?_
        rintro e w4 ⟨a4, m4, c4, rfl, H4⟩
        have hk := H4.out.1
        have A4 := Lib.hid H4.out.2
        obtain ⟨g0, g1, _, _⟩ := (HCB.out w4 A4.out.bel).1.cells
        obtain ⟨g2, g3, _, _⟩ := (HCB.out w4 A4.out.bel).2.cells
        go_wp2_with fail
        refine (HAf.out _ A4.out).mono ?_
        rintro e w5 ⟨rfl, A5⟩
        clear g0 g1 g2 g3 hk
        go_wp2_with fail
        refine (HT.out _).mono ?_
        rintro e w6 ⟨rfl, B6⟩
        have A6 := Lib.hid (A5.out.on B6)
        clear B6
        go_wp2
        go_returns
        exact ⟨rfl, HBW.out.trans (A6.out.bel.mono HNL.out)⟩
    have i1 : (i : Int) < (q : Int) := by omega
    obtain ⟨ab, off, rfl, hc⟩ := HCELLS.out (by intro e; have := HQL.out; rw [e] at this; simp at this; omega)
    have hc1 := hc i (by have := HQL.out; omega)
    have hf1 := HFIT.out _ (List.getElem_mem (show i < l.length by have := HQL.out; omega))
    generalize l[i]'(by have := HQL.out; omega) = o at hc1 hf1
    obtain ⟨kd, ep, sr, sk, sc, ov, Lo, sv⟩ := o
    dsimp only at hf1
    obtain ⟨oa, oc, rfl⟩ : ∃ a c, ov = .slice a Lo.length c := by obtain ⟨a, c, h, _⟩ := hf1; exact ⟨a, c, h⟩
    obtain ⟨lo, hlo⟩ : ∃ x, x = Lo.length := ⟨_, rfl⟩
    rw [← hlo] at hf1 hc1
    have HC := Lib.hid hc1
    obtain ⟨d0, d1, d2, d3, d4, d5, d6⟩ := hc1 wr HR.out.bel
    dsimp only at d0 d1 d2 d3 d4 d5 d6
    have HLO := Lib.hid hlo
    clear hlo hc hc1
    by_cases h8 : (8 : Int) < (lo : Int)
    · go_wp2_with fail
      refine (HT.out _).mono ?_
      rintro e w3 ⟨rfl, B3⟩
      have A4 := Lib.hid (HR.out.on B3)
      clear B3
      go_wp2
      go_returns
      exact ⟨rfl, HBW.out.trans (A4.out.bel.mono HNL.out)⟩
    have HF : Hid (Lo.length ≤ 8 ∧ Ints W n (.slice oa lo oc) Lo) := ⟨by have := HLO.out; omega, hf1⟩
    clear hf1
    by_cases hk0 : kd = 0
    · subst hk0
      have HP : Hid (∀ u, AO n W p s u → Calls Try.prog 10 #[.pointer (some ⟨p, 0, none⟩), .int .i64 ep, .agg #[.int .i64 sr, .int .i64 sk]] u fun e w' => ∃ a k c x0 x1 x2 x3 x5 bb err, e = .returned (.tuple #[.agg #[.int .i64 x0, .int .i64 x1, .int .i64 x2, .int .i64 x3, .bool bb, .int .i64 x5, .slice a k c], .int .i64 err]) ∧ Hid (AO n W p (prepS s ep sr sk) w')) := fun u hu =>
        (ao_prep hu ep sr sk rfl rfl rfl).mono fun _ _ ⟨a, k, c, he, hh⟩ => ⟨a, k, c, _, _, _, _, _, _, _, he, hh.out.2.1⟩
      have HS : Hid (∀ u, Below n W u → (fun u => AStepCells u ab (off + i * 7) ⟨0, ep, sr, sk, sc, .slice oa lo oc, Lo, sv⟩) u) := fun u hu => (HC.out u hu)
      go_wp2_with fail
      clear d0 d1 d2 d3 d4 d5 d6
      refine wp_region_held_drew (S := (fun u => AStepCells u ab (off + i * 7) ⟨0, ep, sr, sk, sc, .slice oa lo oc, Lo, sv⟩)) (by kernel_rfl) (HS.out _ (HR.out.on (Below.drew (Below.refl _ _))).bel) (fun hHeld => ?_)
      first
        | (refine held_take 0 62 (v := ?_) rfl rfl (by kernel_rfl) (by kernel_rfl) (by kernel_rfl) (fun _ _ _ h => h) (by assumption) (by rfl) ?_ ?_; rotate_left; (focus (intro w hSw; (have hS0 := hSw.1; have hS1 := hSw.2.1; have hS2 := hSw.2.2.1; have hS3 := hSw.2.2.2.1; have hS4 := hSw.2.2.2.2.1; have hS5 := hSw.2.2.2.2.2.1; dsimp only at hS0 hS1 hS2 hS3 hS4 hS5); go_simp <;> with_reducible rfl)))
        | refine held_pass 0 62 rfl rfl (by kernel_rfl) (by kernel_rfl) (by kernel_rfl) (fun _ _ _ h => h) (by assumption) (by rfl) ?_
      simp only [Act.put, List.setIfInBounds_toArray, List.set_cons_zero, List.set_cons_succ]
      first
        | (refine held_take 1 63 (v := ?_) rfl rfl (by kernel_rfl) (by kernel_rfl) (by kernel_rfl) (fun _ _ _ h => h) (by assumption) (by rfl) ?_ ?_; rotate_left; (focus (intro w hSw; (have hS0 := hSw.1; have hS1 := hSw.2.1; have hS2 := hSw.2.2.1; have hS3 := hSw.2.2.2.1; have hS4 := hSw.2.2.2.2.1; have hS5 := hSw.2.2.2.2.2.1; dsimp only at hS0 hS1 hS2 hS3 hS4 hS5); go_simp <;> with_reducible rfl)))
        | refine held_pass 1 63 rfl rfl (by kernel_rfl) (by kernel_rfl) (by kernel_rfl) (fun _ _ _ h => h) (by assumption) (by rfl) ?_
      simp only [Act.put, List.setIfInBounds_toArray, List.set_cons_zero, List.set_cons_succ]
      first
        | (refine held_take 2 64 (v := ?_) rfl rfl (by kernel_rfl) (by kernel_rfl) (by kernel_rfl) (fun _ _ _ h => h) (by assumption) (by rfl) ?_ ?_; rotate_left; (focus (intro w hSw; (have hS0 := hSw.1; have hS1 := hSw.2.1; have hS2 := hSw.2.2.1; have hS3 := hSw.2.2.2.1; have hS4 := hSw.2.2.2.2.1; have hS5 := hSw.2.2.2.2.2.1; dsimp only at hS0 hS1 hS2 hS3 hS4 hS5); go_simp <;> with_reducible rfl)))
        | refine held_pass 2 64 rfl rfl (by kernel_rfl) (by kernel_rfl) (by kernel_rfl) (fun _ _ _ h => h) (by assumption) (by rfl) ?_
      simp only [Act.put, List.setIfInBounds_toArray, List.set_cons_zero, List.set_cons_succ]
      first
        | (refine held_take 3 65 (v := ?_) rfl rfl (by kernel_rfl) (by kernel_rfl) (by kernel_rfl) (fun _ _ _ h => h) (by assumption) (by rfl) ?_ ?_; rotate_left; (focus (intro w hSw; (have hS0 := hSw.1; have hS1 := hSw.2.1; have hS2 := hSw.2.2.1; have hS3 := hSw.2.2.2.1; have hS4 := hSw.2.2.2.2.1; have hS5 := hSw.2.2.2.2.2.1; dsimp only at hS0 hS1 hS2 hS3 hS4 hS5); go_simp <;> with_reducible rfl)))
        | refine held_pass 3 65 rfl rfl (by kernel_rfl) (by kernel_rfl) (by kernel_rfl) (fun _ _ _ h => h) (by assumption) (by rfl) ?_
      simp only [Act.put, List.setIfInBounds_toArray, List.set_cons_zero, List.set_cons_succ]
      first
        | (refine held_take 4 66 (v := ?_) rfl rfl (by kernel_rfl) (by kernel_rfl) (by kernel_rfl) (fun _ _ _ h => h) (by assumption) (by rfl) ?_ ?_; rotate_left; (focus (intro w hSw; (have hS0 := hSw.1; have hS1 := hSw.2.1; have hS2 := hSw.2.2.1; have hS3 := hSw.2.2.2.1; have hS4 := hSw.2.2.2.2.1; have hS5 := hSw.2.2.2.2.2.1; dsimp only at hS0 hS1 hS2 hS3 hS4 hS5); go_simp <;> with_reducible rfl)))
        | refine held_pass 4 66 rfl rfl (by kernel_rfl) (by kernel_rfl) (by kernel_rfl) (fun _ _ _ h => h) (by assumption) (by rfl) ?_
      simp only [Act.put, List.setIfInBounds_toArray, List.set_cons_zero, List.set_cons_succ]
      first
        | (refine held_take 5 67 (v := ?_) rfl rfl (by kernel_rfl) (by kernel_rfl) (by kernel_rfl) (fun _ _ _ h => h) (by assumption) (by rfl) ?_ ?_; rotate_left; (focus (intro w hSw; (have hS0 := hSw.1; have hS1 := hSw.2.1; have hS2 := hSw.2.2.1; have hS3 := hSw.2.2.2.1; have hS4 := hSw.2.2.2.2.1; have hS5 := hSw.2.2.2.2.2.1; dsimp only at hS0 hS1 hS2 hS3 hS4 hS5); go_simp <;> with_reducible rfl)))
        | refine held_pass 5 67 rfl rfl (by kernel_rfl) (by kernel_rfl) (by kernel_rfl) (fun _ _ _ h => h) (by assumption) (by rfl) ?_
      simp only [Act.put, List.setIfInBounds_toArray, List.set_cons_zero, List.set_cons_succ]
      first
        | (refine held_take 6 68 (v := ?_) rfl rfl (by kernel_rfl) (by kernel_rfl) (by kernel_rfl) (fun _ _ _ h => h) (by assumption) (by rfl) ?_ ?_; rotate_left; (focus (intro w hSw; (have hS0 := hSw.1; have hS1 := hSw.2.1; have hS2 := hSw.2.2.1; have hS3 := hSw.2.2.2.1; have hS4 := hSw.2.2.2.2.1; have hS5 := hSw.2.2.2.2.2.1; dsimp only at hS0 hS1 hS2 hS3 hS4 hS5); go_simp <;> with_reducible rfl)))
        | refine held_pass 6 68 rfl rfl (by kernel_rfl) (by kernel_rfl) (by kernel_rfl) (fun _ _ _ h => h) (by assumption) (by rfl) ?_
      simp only [Act.put, List.setIfInBounds_toArray, List.set_cons_zero, List.set_cons_succ]
      first
        | (refine held_take 7 69 (v := ?_) rfl rfl (by kernel_rfl) (by kernel_rfl) (by kernel_rfl) (fun _ _ _ h => h) (by assumption) (by rfl) ?_ ?_; rotate_left; (focus (intro w hSw; (have hS0 := hSw.1; have hS1 := hSw.2.1; have hS2 := hSw.2.2.1; have hS3 := hSw.2.2.2.1; have hS4 := hSw.2.2.2.2.1; have hS5 := hSw.2.2.2.2.2.1; dsimp only at hS0 hS1 hS2 hS3 hS4 hS5); go_simp <;> with_reducible rfl)))
        | refine held_pass 7 69 rfl rfl (by kernel_rfl) (by kernel_rfl) (by kernel_rfl) (fun _ _ _ h => h) (by assumption) (by rfl) ?_
      simp only [Act.put, List.setIfInBounds_toArray, List.set_cons_zero, List.set_cons_succ]
      first
        | (refine held_take 8 70 (v := ?_) rfl rfl (by kernel_rfl) (by kernel_rfl) (by kernel_rfl) (fun _ _ _ h => h) (by assumption) (by rfl) ?_ ?_; rotate_left; (focus (intro w hSw; (have hS0 := hSw.1; have hS1 := hSw.2.1; have hS2 := hSw.2.2.1; have hS3 := hSw.2.2.2.1; have hS4 := hSw.2.2.2.2.1; have hS5 := hSw.2.2.2.2.2.1; dsimp only at hS0 hS1 hS2 hS3 hS4 hS5); go_simp <;> with_reducible rfl)))
        | refine held_pass 8 70 rfl rfl (by kernel_rfl) (by kernel_rfl) (by kernel_rfl) (fun _ _ _ h => h) (by assumption) (by rfl) ?_
      simp only [Act.put, List.setIfInBounds_toArray, List.set_cons_zero, List.set_cons_succ]
      first
        | (refine held_take 9 71 (v := ?_) rfl rfl (by kernel_rfl) (by kernel_rfl) (by kernel_rfl) (fun _ _ _ h => h) (by assumption) (by rfl) ?_ ?_; rotate_left; (focus (intro w hSw; (have hS0 := hSw.1; have hS1 := hSw.2.1; have hS2 := hSw.2.2.1; have hS3 := hSw.2.2.2.1; have hS4 := hSw.2.2.2.2.1; have hS5 := hSw.2.2.2.2.2.1; dsimp only at hS0 hS1 hS2 hS3 hS4 hS5); go_simp <;> with_reducible rfl)))
        | refine held_pass 9 71 rfl rfl (by kernel_rfl) (by kernel_rfl) (by kernel_rfl) (fun _ _ _ h => h) (by assumption) (by rfl) ?_
      simp only [Act.put, List.setIfInBounds_toArray, List.set_cons_zero, List.set_cons_succ]
      first
        | (refine held_take 10 72 (v := ?_) rfl rfl (by kernel_rfl) (by kernel_rfl) (by kernel_rfl) (fun _ _ _ h => h) (by assumption) (by rfl) ?_ ?_; rotate_left; (focus (intro w hSw; (have hS0 := hSw.1; have hS1 := hSw.2.1; have hS2 := hSw.2.2.1; have hS3 := hSw.2.2.2.1; have hS4 := hSw.2.2.2.2.1; have hS5 := hSw.2.2.2.2.2.1; dsimp only at hS0 hS1 hS2 hS3 hS4 hS5); go_simp <;> with_reducible rfl)))
        | refine held_pass 10 72 rfl rfl (by kernel_rfl) (by kernel_rfl) (by kernel_rfl) (fun _ _ _ h => h) (by assumption) (by rfl) ?_
      simp only [Act.put, List.setIfInBounds_toArray, List.set_cons_zero, List.set_cons_succ]
      refine held_call 11 73 rfl rfl (by kernel_rfl) (by rfl) (fun K hK => ?_)
      simp only [Go.wp_at_succ, Go.wp_at_zero]
      go_simp
      refine (HP.out _ (HR.out.on (Below.drew (Below.refl _ _)))).mono ?_
      rintro e w2 ⟨ya, yk, yc, x0, x1, x2, x3, x5, bb, err, rfl, H2⟩
      have A2 := Lib.hid H2.out
      first | (with_reducible refine hK.out _ _ ?_ (fun hHeld => ?_)) | (go_wp2_with fail; refine hK.out _ _ ?_ (fun hHeld => ?_))
      · exact HS.out _ A2.out.bel
      clear hK K
      try simp only [Act.put, List.setIfInBounds_toArray, List.set_cons_zero, List.set_cons_succ]
      refine wpAnyH_done (by kernel_rfl) ?_ _
      go_wp2_with fail
      go_roundw
      case rel => exact ⟨i + 1, prepS s ep sr sk, by omega, by go_num, A2.out⟩
      case measure => simp [intOf]; omega
    · by_cases hk1 : kd = 1
      · subst hk1
        have HP : Hid (∀ u, AO n W p s u → Calls Try.prog 16 #[.pointer (some ⟨p, 0, none⟩), .agg #[.int .i64 sc, .slice oa lo oc], .agg #[.int .i64 sr, .int .i64 sk], .bool false] u fun e w' => ∃ err, e = .returned (.int .i64 err) ∧ Hid (AO n W p (accS s sc Lo sr sk false) w')) := fun u hu =>
          (ao_acc hu sc _ Lo n (HF.out.2.keep hu.bel) hu.size (by have := HF.out.1; omega) sr sk false rfl rfl).mono fun _ _ ⟨he, hh⟩ => ⟨_, he, hh.out.1⟩
        have HS : Hid (∀ u, Below n W u → (fun u => AStepCells u ab (off + i * 7) ⟨1, ep, sr, sk, sc, .slice oa lo oc, Lo, sv⟩) u) := fun u hu => (HC.out u hu)
        go_wp2_with fail
        clear d0 d1 d2 d3 d4 d5 d6
        refine wp_region_held_drew (S := (fun u => AStepCells u ab (off + i * 7) ⟨1, ep, sr, sk, sc, .slice oa lo oc, Lo, sv⟩)) (by kernel_rfl) (HS.out _ (HR.out.on (Below.drew (Below.refl _ _))).bel) (fun hHeld => ?_)
        first
          | (refine held_take 0 76 (v := ?_) rfl rfl (by kernel_rfl) (by kernel_rfl) (by kernel_rfl) (fun _ _ _ h => h) (by assumption) (by rfl) ?_ ?_; rotate_left; (focus (intro w hSw; (have hS0 := hSw.1; have hS1 := hSw.2.1; have hS2 := hSw.2.2.1; have hS3 := hSw.2.2.2.1; have hS4 := hSw.2.2.2.2.1; have hS5 := hSw.2.2.2.2.2.1; dsimp only at hS0 hS1 hS2 hS3 hS4 hS5); go_simp <;> with_reducible rfl)))
          | refine held_pass 0 76 rfl rfl (by kernel_rfl) (by kernel_rfl) (by kernel_rfl) (fun _ _ _ h => h) (by assumption) (by rfl) ?_
        simp only [Act.put, List.setIfInBounds_toArray, List.set_cons_zero, List.set_cons_succ]
        first
          | (refine held_take 1 77 (v := ?_) rfl rfl (by kernel_rfl) (by kernel_rfl) (by kernel_rfl) (fun _ _ _ h => h) (by assumption) (by rfl) ?_ ?_; rotate_left; (focus (intro w hSw; (have hS0 := hSw.1; have hS1 := hSw.2.1; have hS2 := hSw.2.2.1; have hS3 := hSw.2.2.2.1; have hS4 := hSw.2.2.2.2.1; have hS5 := hSw.2.2.2.2.2.1; dsimp only at hS0 hS1 hS2 hS3 hS4 hS5); go_simp <;> with_reducible rfl)))
          | refine held_pass 1 77 rfl rfl (by kernel_rfl) (by kernel_rfl) (by kernel_rfl) (fun _ _ _ h => h) (by assumption) (by rfl) ?_
        simp only [Act.put, List.setIfInBounds_toArray, List.set_cons_zero, List.set_cons_succ]
        first
          | (refine held_take 2 78 (v := ?_) rfl rfl (by kernel_rfl) (by kernel_rfl) (by kernel_rfl) (fun _ _ _ h => h) (by assumption) (by rfl) ?_ ?_; rotate_left; (focus (intro w hSw; (have hS0 := hSw.1; have hS1 := hSw.2.1; have hS2 := hSw.2.2.1; have hS3 := hSw.2.2.2.1; have hS4 := hSw.2.2.2.2.1; have hS5 := hSw.2.2.2.2.2.1; dsimp only at hS0 hS1 hS2 hS3 hS4 hS5); go_simp <;> with_reducible rfl)))
          | refine held_pass 2 78 rfl rfl (by kernel_rfl) (by kernel_rfl) (by kernel_rfl) (fun _ _ _ h => h) (by assumption) (by rfl) ?_
        simp only [Act.put, List.setIfInBounds_toArray, List.set_cons_zero, List.set_cons_succ]
        first
          | (refine held_take 3 79 (v := ?_) rfl rfl (by kernel_rfl) (by kernel_rfl) (by kernel_rfl) (fun _ _ _ h => h) (by assumption) (by rfl) ?_ ?_; rotate_left; (focus (intro w hSw; (have hS0 := hSw.1; have hS1 := hSw.2.1; have hS2 := hSw.2.2.1; have hS3 := hSw.2.2.2.1; have hS4 := hSw.2.2.2.2.1; have hS5 := hSw.2.2.2.2.2.1; dsimp only at hS0 hS1 hS2 hS3 hS4 hS5); go_simp <;> with_reducible rfl)))
          | refine held_pass 3 79 rfl rfl (by kernel_rfl) (by kernel_rfl) (by kernel_rfl) (fun _ _ _ h => h) (by assumption) (by rfl) ?_
        simp only [Act.put, List.setIfInBounds_toArray, List.set_cons_zero, List.set_cons_succ]
        first
          | (refine held_take 4 80 (v := ?_) rfl rfl (by kernel_rfl) (by kernel_rfl) (by kernel_rfl) (fun _ _ _ h => h) (by assumption) (by rfl) ?_ ?_; rotate_left; (focus (intro w hSw; (have hS0 := hSw.1; have hS1 := hSw.2.1; have hS2 := hSw.2.2.1; have hS3 := hSw.2.2.2.1; have hS4 := hSw.2.2.2.2.1; have hS5 := hSw.2.2.2.2.2.1; dsimp only at hS0 hS1 hS2 hS3 hS4 hS5); go_simp <;> with_reducible rfl)))
          | refine held_pass 4 80 rfl rfl (by kernel_rfl) (by kernel_rfl) (by kernel_rfl) (fun _ _ _ h => h) (by assumption) (by rfl) ?_
        simp only [Act.put, List.setIfInBounds_toArray, List.set_cons_zero, List.set_cons_succ]
        first
          | (refine held_take 5 81 (v := ?_) rfl rfl (by kernel_rfl) (by kernel_rfl) (by kernel_rfl) (fun _ _ _ h => h) (by assumption) (by rfl) ?_ ?_; rotate_left; (focus (intro w hSw; (have hS0 := hSw.1; have hS1 := hSw.2.1; have hS2 := hSw.2.2.1; have hS3 := hSw.2.2.2.1; have hS4 := hSw.2.2.2.2.1; have hS5 := hSw.2.2.2.2.2.1; dsimp only at hS0 hS1 hS2 hS3 hS4 hS5); go_simp <;> with_reducible rfl)))
          | refine held_pass 5 81 rfl rfl (by kernel_rfl) (by kernel_rfl) (by kernel_rfl) (fun _ _ _ h => h) (by assumption) (by rfl) ?_
        simp only [Act.put, List.setIfInBounds_toArray, List.set_cons_zero, List.set_cons_succ]
        first
          | (refine held_take 6 82 (v := ?_) rfl rfl (by kernel_rfl) (by kernel_rfl) (by kernel_rfl) (fun _ _ _ h => h) (by assumption) (by rfl) ?_ ?_; rotate_left; (focus (intro w hSw; (have hS0 := hSw.1; have hS1 := hSw.2.1; have hS2 := hSw.2.2.1; have hS3 := hSw.2.2.2.1; have hS4 := hSw.2.2.2.2.1; have hS5 := hSw.2.2.2.2.2.1; dsimp only at hS0 hS1 hS2 hS3 hS4 hS5); go_simp <;> with_reducible rfl)))
          | refine held_pass 6 82 rfl rfl (by kernel_rfl) (by kernel_rfl) (by kernel_rfl) (fun _ _ _ h => h) (by assumption) (by rfl) ?_
        simp only [Act.put, List.setIfInBounds_toArray, List.set_cons_zero, List.set_cons_succ]
        first
          | (refine held_take 7 83 (v := ?_) rfl rfl (by kernel_rfl) (by kernel_rfl) (by kernel_rfl) (fun _ _ _ h => h) (by assumption) (by rfl) ?_ ?_; rotate_left; (focus (intro w hSw; (have hS0 := hSw.1; have hS1 := hSw.2.1; have hS2 := hSw.2.2.1; have hS3 := hSw.2.2.2.1; have hS4 := hSw.2.2.2.2.1; have hS5 := hSw.2.2.2.2.2.1; dsimp only at hS0 hS1 hS2 hS3 hS4 hS5); go_simp <;> with_reducible rfl)))
          | refine held_pass 7 83 rfl rfl (by kernel_rfl) (by kernel_rfl) (by kernel_rfl) (fun _ _ _ h => h) (by assumption) (by rfl) ?_
        simp only [Act.put, List.setIfInBounds_toArray, List.set_cons_zero, List.set_cons_succ]
        first
          | (refine held_take 8 84 (v := ?_) rfl rfl (by kernel_rfl) (by kernel_rfl) (by kernel_rfl) (fun _ _ _ h => h) (by assumption) (by rfl) ?_ ?_; rotate_left; (focus (intro w hSw; (have hS0 := hSw.1; have hS1 := hSw.2.1; have hS2 := hSw.2.2.1; have hS3 := hSw.2.2.2.1; have hS4 := hSw.2.2.2.2.1; have hS5 := hSw.2.2.2.2.2.1; dsimp only at hS0 hS1 hS2 hS3 hS4 hS5); go_simp <;> with_reducible rfl)))
          | refine held_pass 8 84 rfl rfl (by kernel_rfl) (by kernel_rfl) (by kernel_rfl) (fun _ _ _ h => h) (by assumption) (by rfl) ?_
        simp only [Act.put, List.setIfInBounds_toArray, List.set_cons_zero, List.set_cons_succ]
        first
          | (refine held_take 9 85 (v := ?_) rfl rfl (by kernel_rfl) (by kernel_rfl) (by kernel_rfl) (fun _ _ _ h => h) (by assumption) (by rfl) ?_ ?_; rotate_left; (focus (intro w hSw; (have hS0 := hSw.1; have hS1 := hSw.2.1; have hS2 := hSw.2.2.1; have hS3 := hSw.2.2.2.1; have hS4 := hSw.2.2.2.2.1; have hS5 := hSw.2.2.2.2.2.1; dsimp only at hS0 hS1 hS2 hS3 hS4 hS5); go_simp <;> with_reducible rfl)))
          | refine held_pass 9 85 rfl rfl (by kernel_rfl) (by kernel_rfl) (by kernel_rfl) (fun _ _ _ h => h) (by assumption) (by rfl) ?_
        simp only [Act.put, List.setIfInBounds_toArray, List.set_cons_zero, List.set_cons_succ]
        first
          | (refine held_take 10 86 (v := ?_) rfl rfl (by kernel_rfl) (by kernel_rfl) (by kernel_rfl) (fun _ _ _ h => h) (by assumption) (by rfl) ?_ ?_; rotate_left; (focus (intro w hSw; (have hS0 := hSw.1; have hS1 := hSw.2.1; have hS2 := hSw.2.2.1; have hS3 := hSw.2.2.2.1; have hS4 := hSw.2.2.2.2.1; have hS5 := hSw.2.2.2.2.2.1; dsimp only at hS0 hS1 hS2 hS3 hS4 hS5); go_simp <;> with_reducible rfl)))
          | refine held_pass 10 86 rfl rfl (by kernel_rfl) (by kernel_rfl) (by kernel_rfl) (fun _ _ _ h => h) (by assumption) (by rfl) ?_
        simp only [Act.put, List.setIfInBounds_toArray, List.set_cons_zero, List.set_cons_succ]
        refine held_call 11 87 rfl rfl (by kernel_rfl) (by rfl) (fun K hK => ?_)
        simp only [Go.wp_at_succ, Go.wp_at_zero]
        go_simp
        refine (HP.out _ (HR.out.on (Below.drew (Below.refl _ _)))).mono ?_
        rintro e w2 ⟨err, rfl, H2⟩
        have A2 := Lib.hid H2.out
        first | (with_reducible refine hK.out _ _ ?_ (fun hHeld => ?_)) | (go_wp2_with fail; refine hK.out _ _ ?_ (fun hHeld => ?_))
        · exact HS.out _ A2.out.bel
        clear hK K
        try simp only [Act.put, List.setIfInBounds_toArray, List.set_cons_zero, List.set_cons_succ]
        refine wpAnyH_done (by kernel_rfl) ?_ _
        go_wp2_with fail
        go_roundw
        case rel => exact ⟨i + 1, accS s sc Lo sr sk false, by omega, by go_num, A2.out⟩
        case measure => simp [intOf]; omega
      · have hb0 : (kd == 0) = false := beq_eq_false_iff_ne.2 hk0
        have hb1 : (kd == 1) = false := beq_eq_false_iff_ne.2 hk1
        clear hk0 hk1
        have HP : Hid (∀ u, AO n W p s u → Calls Try.prog 11 #[.pointer (some ⟨p, 0, none⟩), .agg #[.int .i64 sc, .slice oa lo oc]] u fun e w' => ∃ err, e = .returned (.int .i64 err) ∧ Hid (AO n W p (lrnS s sc Lo) w')) := fun u hu =>
          (ao_lrn hu sc _ Lo n (HF.out.2.keep hu.bel) hu.size (by have := HF.out.1; omega) rfl rfl).mono fun _ _ ⟨he, hh⟩ => ⟨_, he, hh.out.1⟩
        go_wp2_with fail
        refine (HP.out _ HR.out).mono ?_
        rintro e w2 ⟨err, rfl, H2⟩
        go_wp2_with fail
        go_roundw
        case rel => exact ⟨i + 1, lrnS s sc Lo, by omega, by go_num, H2.out⟩
        case measure => simp [intOf]; omega

set_option maxRecDepth 100000 in
theorem lifted (os : Os) (started : os.Started) (H : Type) (enc : TypeId × Value → H) :
    ReturnsInHanded {} Try.checked os 8 .any (Rows.acceptVetoesSpec.pre6 enc Try.prog Try.f8 Rows.acceptVetoesRow.domain false) (Rows.acceptVetoesSpec.post enc Try.prog Try.f8 false true false false) := by
  refine returnsInHanded_of_change (C := Try.checked) own started (by kernel_rfl) Try.func8
    (ChangeSpec.witness6 (enc := enc) (C := Try.checked) false ⟨#[], #[.slice none 0 0, .agg #[.int .i64 0, .slice none 0 0], .agg #[.int .i64 0, .int .i64 0]], []⟩ 8 (by kernel_rfl) (by kernel_rfl) (by kernel_rfl) (by kernel_rfl)) ?_
  intro W base args ds gs before hval0 hW hcnd _
  have hval : ∀ (j : Nat) t v, Try.f8.params[j]? = some t → args[j]? = some v → Value.okWide Try.prog W .any base t v := hval0
  have hW' := hW
  obtain ⟨p, q, hA0, hV, rfl, hfz, hnd⟩ := hW
  have hA : DataW.TrodAll enc Try.prog W 0 (fun _ => true) true Try.f8.params.toList args.toList ds p := hA0
  rw [Try.params8] at hA hval
  obtain ⟨v0, vs0, d0, ds0, p0, q0, hargs, rfl, rfl, h0, r0⟩ := trodAll_cons hA
  obtain ⟨v1, vs1, d1, ds1, p1, q1, rfl, rfl, rfl, h1, r1⟩ := trodAll_cons r0
  obtain ⟨v2, vs2, d2, ds2, p2, q2, rfl, rfl, rfl, h2, r2⟩ := trodAll_cons r1
  obtain ⟨rfl, rfl, rfl⟩ := trodAll_nil r2
  obtain rfl : args = #[v0, v1, v2] := by cases args; simp_all
  obtain ⟨rfl, rfl⟩ := trodVars_none hV
  obtain ⟨a0, len0, cap0, rfl⟩ := okWide_slice Try.underlying45 (hval 0 45 v0 rfl rfl)
  have k0 := h0
  have lt0 : ∀ x ∈ p0, x.block < W.heap.size := by obtain ⟨m, hm⟩ := k0; exact DataW.trod_lt m _ _ _ hm
  obtain ⟨l0, w0⟩ := asteps_open h0
  have k1 := h1
  have lt1 : ∀ x ∈ p1, x.block < W.heap.size := by obtain ⟨m, hm⟩ := k1; exact DataW.trod_lt m _ _ _ hm
  obtain ⟨xa1, xb1, xc1, xd1, l1, rfl, w1⟩ := chain_open (hval 1 28 v1 rfl rfl) h1
  have k2 := h2
  have lt2 : ∀ x ∈ p2, x.block < W.heap.size := by obtain ⟨m, hm⟩ := k2; exact DataW.trod_lt m _ _ _ hm
  obtain ⟨xa2, xb2, rfl, wa2, wb2⟩ := ballot_open (hval 2 30 v2 rfl rfl) h2
  clear hA0 hval0
  refine (walk (.slice a0 len0 cap0) l0 xa1 (.slice xb1 xc1 xd1) l1 xa2 xb2 W w0 w1 wa2 wb2).mono fun e W' ⟨he, bel⟩ => ?_
  subst he
  exact ⟨_, rfl, _, _, _, [], _, [], hW', trodAll_mk1 (shut_bool Try.underlying4 _), (trodAll_cons_mk (Below.trod laidOut (by kernel_rfl) (of_decide_eq_true (by kernel_rfl)) k0 bel lt0) (trodAll_cons_mk (Below.trod laidOut (by kernel_rfl) (of_decide_eq_true (by kernel_rfl)) k1 bel lt1) (trodAll_cons_mk (Below.trod laidOut (by kernel_rfl) (of_decide_eq_true (by kernel_rfl)) k2 bel lt2) trodAll_mk0))), rfl, bel.frame _, fun h => by cases h⟩

theorem over : Rows.acceptVetoesRow.holds Try.pinned (OpenSpec.ofChange Rows.acceptVetoesSpec) :=
  OpenClaim.holds_of_wide 8 Try.f8 rfl rfl rfl rfl rfl rfl rfl ⟨rfl, rfl, rfl, rfl, rfl⟩ rfl rfl rfl rfl rfl (by kernel_rfl) Try.func8 (by kernel_rfl)
    (of_decide_eq_true (by kernel_rfl)) (by unfold Func.isWrapper; first | (rw [if_pos (by decide +kernel)]; kernel_rfl) | (rw [if_neg (by decide +kernel)]; exact ⟨rfl, rfl⟩))
    (fun os started H enc _ => lifted os started H enc)
end Go.Proofs.Ytaaffceanjpmbaa.AcceptVetoes

namespace Go.Proofs.Ytaaffceanjpmbaa
theorem acceptVetoes_holds : Rows.AcceptVetoesSaid := AcceptVetoes.over
#print axioms acceptVetoes_holds
end Go.Proofs.Ytaaffceanjpmbaa
