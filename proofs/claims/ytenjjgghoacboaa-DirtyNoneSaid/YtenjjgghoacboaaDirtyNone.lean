/-
  PROVED: casebooklaw19.DirtyNone answers true and leaves its arguments as they were, for any requests and any request: the row's own reading and nothing else is assumed.
-/
import Derived.Test.YtenjjgghoacboaaDtT
import Derived.Test.YtenjjgghoacboaaDiskV
import Derived.Deep.RegionHeld3
namespace Go.Proofs.Ytenjjgghoacboaa.DirtyNone
open Go.ChangeShapes Go.WideShapes Go.ChangeAt Go.RowKit

/-- How LNew ends. -/
def NewX (n : Nat) (w : World) (e : Ending) (w' : World) : Prop := ∃ g S, e = .returned (.tuple #[.pointer (some ⟨g, 0, none⟩), .int .i64 0]) ∧ Hid (GLo n w g 6 [] 0 S w')
theorem lastL_le (L : List ReqV) (i : Nat) : lastL L i ≤ (L.length : Int) := by
  unfold lastL
  cases h : (idN L i).getLast? with
  | none => simp
  | some k =>
    have hk := List.mem_of_getLast? h
    have : k < L.length := by
      have := (List.mem_filter.1 hk).1
      simpa using this
    show (k : Int) + 1 ≤ _
    omega
theorem clean_all (L : List ReqV) (k : Nat) (hk : k < 32) : cleanV L L.length (k : Int) = true := by
  unfold cleanV lastV18
  rw [if_pos (by omega), Int.toNat_natCast]
  exact decide_eq_true ⟨by omega, by omega, lastL_le L k⟩
theorem dirL_of {L : List ReqV} {c : Nat} (h : ∀ k : Nat, k < 32 → cleanV L c (k : Int) = true) : dirL L c = [] := by
  unfold dirL dirN
  rw [List.map_eq_nil_iff, List.filter_eq_nil_iff]
  intro k hk
  simp [h k (by simpa using hk)]
theorem filter_one (m i : Nat) (T : Nat → Bool) (hi : i < m) (h : ∀ k, k < m → T k = !(k == i)) : (List.range m).filter (fun j => !T j) = [i] := by
  induction m with
  | zero => omega
  | succ m ih =>
    rw [List.range_succ, List.filter_append]
    by_cases e : i = m
    · subst e
      rw [List.filter_eq_nil_iff.2 (fun k hk => by
        have hk' : k < i := by simpa using hk
        rw [h k (by omega)]
        have : (k == i) = false := by simp; omega
        simp [this])]
      simp [h i (by omega)]
    · rw [ih (by omega) (fun k hk => h k (by omega))]
      have : (m == i) = false := by simp; omega
      simp [h m (by omega), this]
theorem clean_one (L : List ReqV) (r : ReqV) (i : Nat) (hi : r.id = (i : Int)) (k : Nat) (hk : k < 32) : cleanV (L ++ [r]) L.length (k : Int) = !(k == i) := by
  unfold cleanV lastV18
  rw [if_pos (by omega), Int.toNat_natCast, lastL_app]
  by_cases e : k = i
  · subst e
    rw [if_pos hi, decide_eq_false (by omega)]
    simp
  · have h1 := lastL_le L k
    rw [if_neg (by omega), decide_eq_true ⟨by omega, by omega, h1⟩]
    have : (k == i) = false := by simp; exact e
    simp [this]
theorem dirL_one (L : List ReqV) (r : ReqV) (i : Nat) (hi : r.id = (i : Int)) (h32 : i < 32) : dirL (L ++ [r]) L.length = [(i : Int)] := by
  unfold dirL dirN
  rw [filter_one 32 i _ h32 (fun k hk => clean_one L r i hi k hk)]
  rfl
theorem lputV_way {L L' : List ReqV} {r : ReqV} {p x : Int} (h : lputV L r = (L', p, x)) : (x = 0 ∧ r.puts ∧ L' = L ++ [r]) ∨ (x = 1 ∧ L' = L) ∨ (x = 9 ∧ L' = L) := by
  unfold lputV at h
  split at h
  · simp only [Prod.mk.injEq] at h
    exact .inr (.inl ⟨h.2.2.symm, h.1.symm⟩)
  · rename_i hp
    split at h
    · simp only [Prod.mk.injEq] at h
      exact .inr (.inr ⟨h.2.2.symm, h.1.symm⟩)
    · simp only [Prod.mk.injEq] at h
      exact .inl ⟨h.2.2.symm, Classical.not_not.1 hp, h.1.symm⟩

set_option maxRecDepth 100000 in
set_option maxHeartbeats 3000000 in
theorem run (ao : Option Addr) (n cap : Nat) (L0 : List ReqV) (qc qs qk qi qm : Int) (qd : ByteArray) (w : World) (hn : L0.length = n) (hs : ∀ q ∈ L0, q.data.size ≤ maxLen) (HL : Hid (ReqsAt w ao L0)) (hqd : qd.size ≤ maxLen) :
    Calls Try.prog 6 #[.slice ao n cap, .agg #[.int .i64 qc, .int .i64 qs, .int .i64 qk, .int .i64 qi, .int .i64 qm, .string qd]] w fun e w' => e = .returned (.bool true) ∧ Below w.heap.size w w' := by
  obtain ⟨w0, hw0⟩ : ∃ w0, w0 = w.alloc (.cells #[.int .i64 qc, .int .i64 qs, .int .i64 qk, .int .i64 qi, .int .i64 qm, .string qd] 34) := ⟨_, rfl⟩
  obtain ⟨B, hB⟩ : ∃ B, B = w.heap.size := ⟨_, rfl⟩
  have HW0 := Lib.hid hw0
  have HBB := Lib.hid hB
  have hz0 : w0.heap.size = w.heap.size + 1 := by rw [hw0]; simp
  have hR0 : ReqB w0 B qc qs qk qi qm qd := by rw [hw0, hB]; exact ReqB.fresh w qc qs qk qi qm qd 34
  have hB0 : Below w.heap.size w w0 := by rw [hw0]; exact (Below.refl _ w).alloc (Nat.le_refl _) _
  have HU : Hid (∀ u, Below (w.heap.size + 1) w0 u → Below w.heap.size w u ∧ ReqB u B qc qs qk qi qm qd) := fun u hu => ⟨hB0.trans (hu.mono (by omega)), hR0.keep hu (by omega)⟩
  have H1 : Hid (Calls Try.prog 11 #[.int .i64 6] w0 (NewX (w.heap.size + 1) w0)) := (glo_new 6 (by decide) (by decide) (Below.refl _ w0) (by omega)).mono fun _ _ ⟨g, S, he, h⟩ => ⟨g, S, he, h.out.1⟩
  have HT := Lib.hid (fun u => told19_any u)
  have HN := Lib.hid hn
  have HS := Lib.hid hs
  unfold maxLen at hqd
  clear hn hs hw0 hz0 hR0 hB0 hB
  go_enter Try.func6, Try.ntmps6
  go_wp2_with fail
  rw [← HW0.out, ← HBB.out]
  refine H1.out.mono ?_
  rintro e w1 ⟨g, S0, rfl, G0⟩
  obtain ⟨f0, f1, f2, f3, f4, f5⟩ := (HU.out w1 G0.out.bel).2.cells
  by_cases h30 : 40 < n
  · go_wp2_with fail
    refine (HT.out _).mono ?_
    rintro e w2 ⟨rfl, B2⟩
    have C2 := Lib.hid (HU.out _ (G0.out.on B2).bel).1
    clear B2
    go_wp2
    go_returns
    exact ⟨rfl, C2.out⟩
  have h31 : n ≤ 40 := by omega
  clear h30
  by_cases h100 : 100 < qd.size
  · go_wp2_with fail
    refine (HT.out _).mono ?_
    rintro e w2 ⟨rfl, B2⟩
    have C2 := Lib.hid (HU.out _ (G0.out.on B2).bel).1
    clear B2
    go_wp2
    go_returns
    exact ⟨rfl, C2.out⟩
  have h101 : qd.size ≤ 100 := by omega
  clear h100
  go_wp2
  clear f0 f1 f2 f3 f4 f5
  go_loopw [7] (fun vi wr => ∃ (k : Nat) (L : List ReqV) (S : Nat → Prop), k ≤ n ∧ vi = .int .i64 k ∧ L.length ≤ k ∧ Hid (GLo (w.heap.size + 1) w0 g 6 L 0 S wr)) (fun vi _ => n - (intOf vi).toNat)
  case atStart => exact ⟨0, [], S0, by omega, rfl, Nat.le_refl _, G0⟩
  case round =>
    obtain ⟨k, L, S, hk, rfl, hLk, HG⟩ := hrel
    clear G0 H1
    by_cases hlt : k < n
    · have hkL : k < L0.length := by rw [HN.out]; exact hlt
      obtain ⟨b, off, rfl, hb, hc⟩ := HL.out k hkL
      have FX := Lib.hid hc
      have hsz := HS.out _ (List.getElem_mem hkL)
      clear hc
      generalize L0[k] = q at FX hsz
      obtain ⟨L', p, x, hV⟩ : ∃ L' p x, lputV L q = (L', p, x) := ⟨_, _, _, rfl⟩
      have hle := lputV_len L q
      rw [hV] at hle
      obtain ⟨hl1, hl2⟩ := hle
      simp only at hl1 hl2
      have i0 : (0 : Int) ≤ (k : Int) := by omega
      have i1 : (k : Int) < (n : Int) := by omega
      have HPut : Hid (∀ u, GLo (w.heap.size + 1) w0 g 6 L 0 S u → Calls Try.prog 19 #[.pointer (some ⟨g, 0, none⟩), .agg #[.int .i64 q.client, .int .i64 q.seq, .int .i64 q.kind, .int .i64 q.id, .int .i64 q.mtch, .string q.data]] u (PutLR (w.heap.size + 1) w0 g 6 L' p x 0 S u)) :=
        fun u hu => hu.put (by omega) q.client q.seq q.kind q.id q.mtch q.data hsz L' p x hV
      obtain ⟨f0, f1, f2, f3, f4, f5⟩ := FX.out wr (HU.out _ HG.out.bel).1
      obtain ⟨cl, sq, kd, id, mt, dt⟩ := q
      simp only at HPut hsz f0 f1 f2 f3 f4 f5
      unfold maxLen at hsz
      clear hV hkL
      by_cases h200 : 100 < dt.size
      · go_wp2_with fail
        refine (HT.out _).mono ?_
        rintro e w2 ⟨rfl, B2⟩
        have C2 := Lib.hid (HU.out _ (HG.out.on B2).bel).1
        clear B2
        go_wp2
        go_returns
        exact ⟨rfl, C2.out⟩
      have h201 : dt.size ≤ 100 := by omega
      clear h200
      go_wp2_with fail
      refine (HPut.out _ HG.out).mono ?_
      rintro e w2 ⟨rfl, S2, T2⟩
      have G2 := Lib.hid T2.lo
      clear T2
      go_wp2
      go_roundw
      case rel => exact ⟨k + 1, L', S2, by omega, by go_num, by omega, G2⟩
      case measure => simp [intOf]; omega
    · obtain rfl : k = n := by omega
      obtain ⟨N, hNL⟩ : ∃ N, N = L.length := ⟨_, rfl⟩
      have hN30 : N ≤ 40 := by omega
      have HNL := Lib.hid hNL
      clear HL HS HN hLk
      have HLen : Hid (∀ c S u, GLo (w.heap.size + 1) w0 g 6 L c S u → Calls Try.prog 15 #[.pointer (some ⟨g, 0, none⟩)] u fun e w' => e = .returned (.int .i64 N) ∧ u = w') := fun c S u hu => by rw [hNL]; exact hu.len
      have HCm : Hid (Calls Try.prog 21 #[.pointer (some ⟨g, 0, none⟩), .int .i64 (N : Int)] wr (ComR (w.heap.size + 1) w0 g 6 L N S wr)) := HG.out.comYes (by omega) N (by omega) (by omega)
      have HD0 : Hid (∀ S u, GLo (w.heap.size + 1) w0 g 6 L N S u → Calls Try.prog 29 #[.pointer (some ⟨g, 0, none⟩)] u fun e w' => ∃ a c, e = .returned (.slice a 0 c) ∧ Below u.heap.size u w') := fun S u hu =>
        (ddirty_r hu).mono fun e w' ⟨v, he, hr, hb⟩ => by
          rw [dirL_of (fun k hk => by rw [HNL.out]; exact clean_all L k hk)] at hr
          obtain ⟨a, c, rfl⟩ := own_shape hr
          exact ⟨a, c, he, hb⟩
      obtain ⟨L', p, x, hV⟩ : ∃ L' p x, lputV L ⟨qc, qs, qk, qi, qm, qd⟩ = (L', p, x) := ⟨_, _, _, rfl⟩
      have HPt : Hid (∀ S u, GLo (w.heap.size + 1) w0 g 6 L N S u → Calls Try.prog 19 #[.pointer (some ⟨g, 0, none⟩), .agg #[.int .i64 qc, .int .i64 qs, .int .i64 qk, .int .i64 qi, .int .i64 qm, .string qd]] u (PutLR (w.heap.size + 1) w0 g 6 L' p x N S u)) :=
        fun S u hu => hu.put (by rw [← HNL.out]; omega) qc qs qk qi qm qd (by unfold maxLen; omega) L' p x hV
      have HWay := Lib.hid (lputV_way hV)
      clear hV hNL
      go_wp2_with fail
      refine (HLen.out _ _ _ HG.out).mono ?_
      rintro e w2 ⟨rfl, rfl⟩
      go_wp2_with fail
      refine HCm.out.mono ?_
      rintro e w2 ⟨rfl, S2, T2⟩
      have G2 := Lib.hid T2.lo
      clear T2 HG HCm HLen
      go_wp2_with fail
      refine (HD0.out _ _ G2.out).mono ?_
      rintro e w3 ⟨a3, c3, rfl, b3⟩
      have G3 := Lib.hid (G2.out.on b3)
      clear b3 G2
      obtain ⟨f0, f1, f2, f3, f4, f5⟩ := (HU.out w3 G3.out.bel).2.cells
      go_wp2_with fail
      refine (HPt.out _ _ G3.out).mono ?_
      rintro e w4 ⟨rfl, S4, T4⟩
      have G4 := Lib.hid T4.lo
      clear T4 G3 HPt f0 f1 f2 f3 f4 f5
      rcases HWay.out with ⟨rfl, hp, rfl⟩ | h
      · have hm := hp.1
        unfold ReqV.may at hm
        simp only at hm
        obtain ⟨i, rfl⟩ : ∃ i : Nat, qi = i := ⟨qi.toNat, by omega⟩
        have hi32 : i < 32 := by omega
        have HD1 : Hid (∀ S u, GLo (w.heap.size + 1) w0 g 6 (L ++ [⟨qc, qs, qk, (i : Int), qm, qd⟩]) N S u → Calls Try.prog 29 #[.pointer (some ⟨g, 0, none⟩)] u fun e w' => ∃ p c, e = .returned (.slice (some ⟨p, 0, none⟩) 1 c) ∧ 1 ≤ c ∧ Hid (p < w'.heap.size ∧ w'.cell? ⟨p, 0, none⟩ = some (.int .i64 (i : Int))) ∧ Below u.heap.size u w') := fun S u hu =>
          (ddirty_r hu).mono fun e w' ⟨v, he, hr, hb⟩ => by
            rw [show dirL (L ++ [⟨qc, qs, qk, (i : Int), qm, qd⟩]) N = [(i : Int)] by rw [HNL.out]; exact dirL_one L _ i rfl hi32] at hr
            obtain ⟨p, cc, hv, hcc, hlo, hlt, hx⟩ := own_cell hr 0 (.int .i64 (i : Int)) rfl
            exact ⟨p, cc, by rw [he, hv]; rfl, hcc, ⟨hlt, hx⟩, hb⟩
        have HC1 : Hid (∀ S u, GLo (w.heap.size + 1) w0 g 6 (L ++ [⟨qc, qs, qk, (i : Int), qm, qd⟩]) N S u → Calls Try.prog 30 #[.pointer (some ⟨g, 0, none⟩), .int .i64 (i : Int)] u fun e w' => e = .returned (.bool false) ∧ u = w') := fun S u hu => dclean_r hu i false (by rw [HNL.out, clean_one L _ i rfl i hi32]; simp)
        have HC2 : Hid (∀ j : Nat, j < 32 → j ≠ i → ∀ S u, GLo (w.heap.size + 1) w0 g 6 (L ++ [⟨qc, qs, qk, (i : Int), qm, qd⟩]) N S u → Calls Try.prog 30 #[.pointer (some ⟨g, 0, none⟩), .int .i64 (j : Int)] u fun e w' => e = .returned (.bool true) ∧ u = w') := fun j hj hne S u hu => dclean_r hu j true (by rw [HNL.out, clean_one L _ i rfl j hj]; simp [hne])
        clear hp hm HWay HD0
        go_wp2_with fail
        refine (HD1.out _ _ G4.out).mono ?_
        rintro e w5 ⟨p5, c5, rfl, hc5, hp5, b5⟩
        have G5 := Lib.hid (G4.out.on b5)
        clear b5 G4 HD1
        have hx5 := hp5.out.2
        obtain ⟨f0, f1, f2, f3, f4, f5⟩ := (HU.out w5 G5.out.bel).2.cells
        have i0 : (0 : Int) ≤ (i : Int) := by omega
        have i1 : (i : Int) < 32 := by omega
        obtain ⟨j, hj⟩ : ∃ j, j = (i + 1) % 32 := ⟨_, rfl⟩
        have ew : IntKind.i64.wrap ((i : Int) + 1) = (i : Int) + 1 := by rw [IntKind.wrap_i64]; omega
        have et : ((i : Int) + 1).tmod 32 = (j : Int) := by rw [Int.tmod_eq_emod_of_nonneg (by omega)]; omega
        have HC3 := Lib.hid (HC2.out j (by omega) (by omega))
        clear HC2 hj
        have HFX : Hid (∀ u, Below w5.heap.size w5 u → u.cell? ⟨B, 3, none⟩ = some (.int .i64 i) ∧ u.cell? ⟨p5, 0, none⟩ = some (.int .i64 i)) := fun u hu => ⟨(HU.out u (G5.out.on hu).bel).2.cells.2.2.2.1, (hu.cell (p := ⟨p5, 0, none⟩) hp5.out.1).trans hp5.out.2⟩
        go_upto_region 18 with fail
        refine wp_region_held_drew (S := fun u => Below w5.heap.size w5 u) (by kernel_rfl) (⟨rfl, rfl, rfl, Nat.le_refl _, fun _ _ => rfl⟩) (fun hHeld => ?_)
        refine held_call 0 78 rfl rfl (by kernel_rfl) (by rfl) (fun K hK => ?_)
        simp only [Go.wp_at_zero]
        go_simp
        go_at_call 26
        (with_reducible refine (HT.out _).mono ?_)
        rintro e u1 ⟨rfl, hb⟩
        have D1 := Lib.hid (hHeld.trans (hb.mono hHeld.size))
        clear hb
        first | (with_reducible refine hK.out _ _ ?_ (fun hHeld => ?_)) | (go_wp2_with fail; refine hK.out _ _ ?_ (fun hHeld => ?_))
        · exact D1.out
        clear hK K
        try simp only [Act.put, List.setIfInBounds_toArray, List.set_cons_zero, List.set_cons_succ]
        first
          | (refine held_take 1 79 (v := ?_) rfl rfl (by kernel_rfl) (by kernel_rfl) (by kernel_rfl) (fun _ _ _ h => h) (by assumption) (by rfl) ?_ ?_; rotate_left; (focus (intro w hSw; (obtain ⟨z0, z1⟩ := HFX.out _ hSw); go_simp <;> with_reducible rfl)))
          | refine held_pass 1 79 rfl rfl (by kernel_rfl) (by kernel_rfl) (by kernel_rfl) (fun _ _ _ h => h) (by assumption) (by rfl) ?_
        simp only [Act.put, List.setIfInBounds_toArray, List.set_cons_zero, List.set_cons_succ]
        first
          | (refine held_take 2 80 (v := ?_) rfl rfl (by kernel_rfl) (by kernel_rfl) (by kernel_rfl) (fun _ _ _ h => h) (by assumption) (by rfl) ?_ ?_; rotate_left; (focus (intro w hSw; (obtain ⟨z0, z1⟩ := HFX.out _ hSw); go_simp <;> with_reducible rfl)))
          | refine held_pass 2 80 rfl rfl (by kernel_rfl) (by kernel_rfl) (by kernel_rfl) (fun _ _ _ h => h) (by assumption) (by rfl) ?_
        simp only [Act.put, List.setIfInBounds_toArray, List.set_cons_zero, List.set_cons_succ]
        first
          | (refine held_take 3 81 (v := ?_) rfl rfl (by kernel_rfl) (by kernel_rfl) (by kernel_rfl) (fun _ _ _ h => h) (by assumption) (by rfl) ?_ ?_; rotate_left; (focus (intro w hSw; (obtain ⟨z0, z1⟩ := HFX.out _ hSw); go_simp <;> with_reducible rfl)))
          | refine held_pass 3 81 rfl rfl (by kernel_rfl) (by kernel_rfl) (by kernel_rfl) (fun _ _ _ h => h) (by assumption) (by rfl) ?_
        simp only [Act.put, List.setIfInBounds_toArray, List.set_cons_zero, List.set_cons_succ]
        first
          | (refine held_take 4 82 (v := ?_) rfl rfl (by kernel_rfl) (by kernel_rfl) (by kernel_rfl) (fun _ _ _ h => h) (by assumption) (by rfl) ?_ ?_; rotate_left; (focus (intro w hSw; (obtain ⟨z0, z1⟩ := HFX.out _ hSw); go_simp <;> with_reducible rfl)))
          | refine held_pass 4 82 rfl rfl (by kernel_rfl) (by kernel_rfl) (by kernel_rfl) (fun _ _ _ h => h) (by assumption) (by rfl) ?_
        simp only [Act.put, List.setIfInBounds_toArray, List.set_cons_zero, List.set_cons_succ]
        first
          | (refine held_take 5 83 (v := ?_) rfl rfl (by kernel_rfl) (by kernel_rfl) (by kernel_rfl) (fun _ _ _ h => h) (by assumption) (by rfl) ?_ ?_; rotate_left; (focus (intro w hSw; (obtain ⟨z0, z1⟩ := HFX.out _ hSw); go_simp <;> with_reducible rfl)))
          | refine held_pass 5 83 rfl rfl (by kernel_rfl) (by kernel_rfl) (by kernel_rfl) (fun _ _ _ h => h) (by assumption) (by rfl) ?_
        simp only [Act.put, List.setIfInBounds_toArray, List.set_cons_zero, List.set_cons_succ]
        first
          | (refine held_take 6 84 (v := ?_) rfl rfl (by kernel_rfl) (by kernel_rfl) (by kernel_rfl) (fun _ _ _ h => h) (by assumption) (by rfl) ?_ ?_; rotate_left; (focus (intro w hSw; (obtain ⟨z0, z1⟩ := HFX.out _ hSw); go_simp <;> with_reducible rfl)))
          | refine held_pass 6 84 rfl rfl (by kernel_rfl) (by kernel_rfl) (by kernel_rfl) (fun _ _ _ h => h) (by assumption) (by rfl) ?_
        simp only [Act.put, List.setIfInBounds_toArray, List.set_cons_zero, List.set_cons_succ]
        first
          | (refine held_take 7 85 (v := ?_) rfl rfl (by kernel_rfl) (by kernel_rfl) (by kernel_rfl) (fun _ _ _ h => h) (by assumption) (by rfl) ?_ ?_; rotate_left; (focus (intro w hSw; (obtain ⟨z0, z1⟩ := HFX.out _ hSw); go_simp <;> with_reducible rfl)))
          | refine held_pass 7 85 rfl rfl (by kernel_rfl) (by kernel_rfl) (by kernel_rfl) (fun _ _ _ h => h) (by assumption) (by rfl) ?_
        simp only [Act.put, List.setIfInBounds_toArray, List.set_cons_zero, List.set_cons_succ]
        first
          | (refine held_take 8 86 (v := ?_) rfl rfl (by kernel_rfl) (by kernel_rfl) (by kernel_rfl) (fun _ _ _ h => h) (by assumption) (by rfl) ?_ ?_; rotate_left; (focus (intro w hSw; (obtain ⟨z0, z1⟩ := HFX.out _ hSw); go_simp <;> with_reducible rfl)))
          | refine held_pass 8 86 rfl rfl (by kernel_rfl) (by kernel_rfl) (by kernel_rfl) (fun _ _ _ h => h) (by assumption) (by rfl) ?_
        simp only [Act.put, List.setIfInBounds_toArray, List.set_cons_zero, List.set_cons_succ]
        first
          | (refine held_take 9 87 (v := ?_) rfl rfl (by kernel_rfl) (by kernel_rfl) (by kernel_rfl) (fun _ _ _ h => h) (by assumption) (by rfl) ?_ ?_; rotate_left; (focus (intro w hSw; (obtain ⟨z0, z1⟩ := HFX.out _ hSw); go_simp <;> with_reducible rfl)))
          | refine held_pass 9 87 rfl rfl (by kernel_rfl) (by kernel_rfl) (by kernel_rfl) (fun _ _ _ h => h) (by assumption) (by rfl) ?_
        simp only [Act.put, List.setIfInBounds_toArray, List.set_cons_zero, List.set_cons_succ]
        first
          | (refine held_take 10 88 (v := ?_) rfl rfl (by kernel_rfl) (by kernel_rfl) (by kernel_rfl) (fun _ _ _ h => h) (by assumption) (by rfl) ?_ ?_; rotate_left; (focus (intro w hSw; (obtain ⟨z0, z1⟩ := HFX.out _ hSw); go_simp <;> with_reducible rfl)))
          | refine held_pass 10 88 rfl rfl (by kernel_rfl) (by kernel_rfl) (by kernel_rfl) (fun _ _ _ h => h) (by assumption) (by rfl) ?_
        simp only [Act.put, List.setIfInBounds_toArray, List.set_cons_zero, List.set_cons_succ]
        first
          | (refine held_take 11 89 (v := ?_) rfl rfl (by kernel_rfl) (by kernel_rfl) (by kernel_rfl) (fun _ _ _ h => h) (by assumption) (by rfl) ?_ ?_; rotate_left; (focus (intro w hSw; (obtain ⟨z0, z1⟩ := HFX.out _ hSw); go_simp <;> with_reducible rfl)))
          | refine held_pass 11 89 rfl rfl (by kernel_rfl) (by kernel_rfl) (by kernel_rfl) (fun _ _ _ h => h) (by assumption) (by rfl) ?_
        simp only [Act.put, List.setIfInBounds_toArray, List.set_cons_zero, List.set_cons_succ]
        first
          | (refine held_take 12 90 (v := ?_) rfl rfl (by kernel_rfl) (by kernel_rfl) (by kernel_rfl) (fun _ _ _ h => h) (by assumption) (by rfl) ?_ ?_; rotate_left; (focus (intro w hSw; (obtain ⟨z0, z1⟩ := HFX.out _ hSw); go_simp <;> with_reducible rfl)))
          | refine held_pass 12 90 rfl rfl (by kernel_rfl) (by kernel_rfl) (by kernel_rfl) (fun _ _ _ h => h) (by assumption) (by rfl) ?_
        simp only [Act.put, List.setIfInBounds_toArray, List.set_cons_zero, List.set_cons_succ]
        first
          | (refine held_take 13 91 (v := ?_) rfl rfl (by kernel_rfl) (by kernel_rfl) (by kernel_rfl) (fun _ _ _ h => h) (by assumption) (by rfl) ?_ ?_; rotate_left; (focus (intro w hSw; (obtain ⟨z0, z1⟩ := HFX.out _ hSw); go_simp <;> with_reducible rfl)))
          | refine held_pass 13 91 rfl rfl (by kernel_rfl) (by kernel_rfl) (by kernel_rfl) (fun _ _ _ h => h) (by assumption) (by rfl) ?_
        simp only [Act.put, List.setIfInBounds_toArray, List.set_cons_zero, List.set_cons_succ]
        first
          | (refine held_take 14 92 (v := ?_) rfl rfl (by kernel_rfl) (by kernel_rfl) (by kernel_rfl) (fun _ _ _ h => h) (by assumption) (by rfl) ?_ ?_; rotate_left; (focus (intro w hSw; (obtain ⟨z0, z1⟩ := HFX.out _ hSw); go_simp <;> with_reducible rfl)))
          | refine held_pass 14 92 rfl rfl (by kernel_rfl) (by kernel_rfl) (by kernel_rfl) (fun _ _ _ h => h) (by assumption) (by rfl) ?_
        simp only [Act.put, List.setIfInBounds_toArray, List.set_cons_zero, List.set_cons_succ]
        first
          | (refine held_take 15 93 (v := ?_) rfl rfl (by kernel_rfl) (by kernel_rfl) (by kernel_rfl) (fun _ _ _ h => h) (by assumption) (by rfl) ?_ ?_; rotate_left; (focus (intro w hSw; (obtain ⟨z0, z1⟩ := HFX.out _ hSw); go_simp <;> with_reducible rfl)))
          | refine held_pass 15 93 rfl rfl (by kernel_rfl) (by kernel_rfl) (by kernel_rfl) (fun _ _ _ h => h) (by assumption) (by rfl) ?_
        simp only [Act.put, List.setIfInBounds_toArray, List.set_cons_zero, List.set_cons_succ]
        first
          | (refine held_take 16 94 (v := ?_) rfl rfl (by kernel_rfl) (by kernel_rfl) (by kernel_rfl) (fun _ _ _ h => h) (by assumption) (by rfl) ?_ ?_; rotate_left; (focus (intro w hSw; (obtain ⟨z0, z1⟩ := HFX.out _ hSw); go_simp <;> with_reducible rfl)))
          | refine held_pass 16 94 rfl rfl (by kernel_rfl) (by kernel_rfl) (by kernel_rfl) (fun _ _ _ h => h) (by assumption) (by rfl) ?_
        simp only [Act.put, List.setIfInBounds_toArray, List.set_cons_zero, List.set_cons_succ]
        first
          | (refine held_take 17 95 (v := ?_) rfl rfl (by kernel_rfl) (by kernel_rfl) (by kernel_rfl) (fun _ _ _ h => h) (by assumption) (by rfl) ?_ ?_; rotate_left; (focus (intro w hSw; (obtain ⟨z0, z1⟩ := HFX.out _ hSw); go_simp <;> with_reducible rfl)))
          | refine held_pass 17 95 rfl rfl (by kernel_rfl) (by kernel_rfl) (by kernel_rfl) (fun _ _ _ h => h) (by assumption) (by rfl) ?_
        simp only [Act.put, List.setIfInBounds_toArray, List.set_cons_zero, List.set_cons_succ]
        refine held_call 18 96 rfl rfl (by kernel_rfl) (by rfl) (fun K hK => ?_)
        simp only [Go.wp_at_succ, Go.wp_at_zero]
        go_simp
        go_at_call 30
        (with_reducible refine (HC1.out _ _ (G5.out.on D1.out)).mono ?_)
        rintro e u2 ⟨rfl, rfl⟩
        first | (with_reducible refine hK.out _ _ ?_ (fun hHeld => ?_)) | (go_wp2_with fail; refine hK.out _ _ ?_ (fun hHeld => ?_))
        · exact D1.out
        clear hK K
        try simp only [Act.put, List.setIfInBounds_toArray, List.set_cons_zero, List.set_cons_succ]
        first
          | (refine held_take 19 97 (v := ?_) rfl rfl (by kernel_rfl) (by kernel_rfl) (by kernel_rfl) (fun _ _ _ h => h) (by assumption) (by rfl) ?_ ?_; rotate_left; (focus (intro w hSw; (obtain ⟨z0, z1⟩ := HFX.out _ hSw); go_simp <;> with_reducible rfl)))
          | refine held_pass 19 97 rfl rfl (by kernel_rfl) (by kernel_rfl) (by kernel_rfl) (fun _ _ _ h => h) (by assumption) (by rfl) ?_
        simp only [Act.put, List.setIfInBounds_toArray, List.set_cons_zero, List.set_cons_succ]
        first
          | (refine held_take 20 98 (v := ?_) rfl rfl (by kernel_rfl) (by kernel_rfl) (by kernel_rfl) (fun _ _ _ h => h) (by assumption) (by rfl) ?_ ?_; rotate_left; (focus (intro w hSw; (obtain ⟨z0, z1⟩ := HFX.out _ hSw); go_simp <;> with_reducible rfl)))
          | refine held_pass 20 98 rfl rfl (by kernel_rfl) (by kernel_rfl) (by kernel_rfl) (fun _ _ _ h => h) (by assumption) (by rfl) ?_
        simp only [Act.put, List.setIfInBounds_toArray, List.set_cons_zero, List.set_cons_succ]
        first
          | (refine held_take 21 99 (v := ?_) rfl rfl (by kernel_rfl) (by kernel_rfl) (by kernel_rfl) (fun _ _ _ h => h) (by assumption) (by rfl) ?_ ?_; rotate_left; (focus (intro w hSw; (obtain ⟨z0, z1⟩ := HFX.out _ hSw); go_simp <;> with_reducible rfl)))
          | refine held_pass 21 99 rfl rfl (by kernel_rfl) (by kernel_rfl) (by kernel_rfl) (fun _ _ _ h => h) (by assumption) (by rfl) ?_
        simp only [Act.put, List.setIfInBounds_toArray, List.set_cons_zero, List.set_cons_succ]
        first
          | (refine held_take 22 100 (v := ?_) rfl rfl (by kernel_rfl) (by kernel_rfl) (by kernel_rfl) (fun _ _ _ h => h) (by assumption) (by rfl) ?_ ?_; rotate_left; (focus (intro w hSw; (obtain ⟨z0, z1⟩ := HFX.out _ hSw); go_simp <;> with_reducible rfl)))
          | refine held_pass 22 100 rfl rfl (by kernel_rfl) (by kernel_rfl) (by kernel_rfl) (fun _ _ _ h => h) (by assumption) (by rfl) ?_
        simp only [Act.put, List.setIfInBounds_toArray, List.set_cons_zero, List.set_cons_succ]
        first
          | (refine held_take 23 101 (v := ?_) rfl rfl (by kernel_rfl) (by kernel_rfl) (by kernel_rfl) (fun _ _ _ h => h) (by assumption) (by rfl) ?_ ?_; rotate_left; (focus (intro w hSw; (obtain ⟨z0, z1⟩ := HFX.out _ hSw); go_simp <;> with_reducible rfl)))
          | refine held_pass 23 101 rfl rfl (by kernel_rfl) (by kernel_rfl) (by kernel_rfl) (fun _ _ _ h => h) (by assumption) (by rfl) ?_
        simp only [Act.put, List.setIfInBounds_toArray, List.set_cons_zero, List.set_cons_succ]
        first
          | (refine held_take 24 102 (v := ?_) rfl rfl (by kernel_rfl) (by kernel_rfl) (by kernel_rfl) (fun _ _ _ h => h) (by assumption) (by rfl) ?_ ?_; rotate_left; (focus (intro w hSw; (obtain ⟨z0, z1⟩ := HFX.out _ hSw); go_simp <;> with_reducible rfl)))
          | refine held_pass 24 102 rfl rfl (by kernel_rfl) (by kernel_rfl) (by kernel_rfl) (fun _ _ _ h => h) (by assumption) (by rfl) ?_
        simp only [Act.put, List.setIfInBounds_toArray, List.set_cons_zero, List.set_cons_succ]
        first
          | (refine held_take 25 103 (v := ?_) rfl rfl (by kernel_rfl) (by kernel_rfl) (by kernel_rfl) (fun _ _ _ h => h) (by assumption) (by rfl) ?_ ?_; rotate_left; (focus (intro w hSw; (obtain ⟨z0, z1⟩ := HFX.out _ hSw); go_simp <;> with_reducible rfl)))
          | refine held_pass 25 103 rfl rfl (by kernel_rfl) (by kernel_rfl) (by kernel_rfl) (fun _ _ _ h => h) (by assumption) (by rfl) ?_
        simp only [Act.put, List.setIfInBounds_toArray, List.set_cons_zero, List.set_cons_succ]
        first
          | (refine held_take 26 104 (v := ?_) rfl rfl (by kernel_rfl) (by kernel_rfl) (by kernel_rfl) (fun _ _ _ h => h) (by assumption) (by rfl) ?_ ?_; rotate_left; (focus (intro w hSw; (obtain ⟨z0, z1⟩ := HFX.out _ hSw); go_simp <;> with_reducible rfl)))
          | refine held_pass 26 104 rfl rfl (by kernel_rfl) (by kernel_rfl) (by kernel_rfl) (fun _ _ _ h => h) (by assumption) (by rfl) ?_
        simp only [Act.put, List.setIfInBounds_toArray, List.set_cons_zero, List.set_cons_succ]
        refine held_call 27 105 rfl rfl (by kernel_rfl) (by rfl) (fun K hK => ?_)
        simp only [Go.wp_at_succ, Go.wp_at_zero]
        go_simp
        go_at_call 30
        (with_reducible refine (HC3.out _ _ (G5.out.on D1.out)).mono ?_)
        rintro e u2 ⟨rfl, rfl⟩
        first | (with_reducible refine hK.out _ _ ?_ (fun hHeld => ?_)) | (go_wp2_with fail; refine hK.out _ _ ?_ (fun hHeld => ?_))
        · exact D1.out
        clear hK K
        try simp only [Act.put, List.setIfInBounds_toArray, List.set_cons_zero, List.set_cons_succ]
        first
          | (refine held_take 28 106 (v := ?_) rfl rfl (by kernel_rfl) (by kernel_rfl) (by kernel_rfl) (fun _ _ _ h => h) (by assumption) (by rfl) ?_ ?_; rotate_left; (focus (intro w hSw; (obtain ⟨z0, z1⟩ := HFX.out _ hSw); go_simp <;> with_reducible rfl)))
          | refine held_pass 28 106 rfl rfl (by kernel_rfl) (by kernel_rfl) (by kernel_rfl) (fun _ _ _ h => h) (by assumption) (by rfl) ?_
        simp only [Act.put, List.setIfInBounds_toArray, List.set_cons_zero, List.set_cons_succ]
        first
          | (refine held_take 29 4 (v := ?_) rfl rfl (by kernel_rfl) (by kernel_rfl) (by kernel_rfl) (fun _ _ _ h => h) (by assumption) (by rfl) ?_ ?_; rotate_left; (focus (intro w hSw; (obtain ⟨z0, z1⟩ := HFX.out _ hSw); go_simp <;> with_reducible rfl)))
          | refine held_pass 29 4 rfl rfl (by kernel_rfl) (by kernel_rfl) (by kernel_rfl) (fun _ _ _ h => h) (by assumption) (by rfl) ?_
        simp only [Act.put, List.setIfInBounds_toArray, List.set_cons_zero, List.set_cons_succ]
        refine wpAnyH_done (by kernel_rfl) ?_ _
        have C9 := Lib.hid (HU.out _ (G5.out.on D1.out).bel).1
        go_wp2
        go_returns
        exact ⟨rfl, C9.out⟩
      · have hx : (x != 0) = true := by rcases h with ⟨rfl, _⟩ | ⟨rfl, _⟩ <;> decide
        obtain rfl : L' = L := by rcases h with ⟨_, h⟩ | ⟨_, h⟩ <;> exact h
        clear h HWay
        go_wp2_with fail
        refine (HD0.out _ _ G4.out).mono ?_
        rintro e w5 ⟨a5, c5, rfl, b5⟩
        have G5 := Lib.hid (G4.out.on b5)
        clear b5 G4
        go_wp2_with fail
        refine (HT.out _).mono ?_
        rintro e w6 ⟨rfl, B6⟩
        have C6 := Lib.hid (HU.out _ (G5.out.on B6).bel).1
        clear B6 G5
        go_wp2
        go_returns
        exact ⟨rfl, C6.out⟩

theorem walk (v : Value) (L : List ReqV) (qc qs qk qi qm : Int) (qd : ByteArray) (w : World) (hV : Reqs w w.heap.size v L) (hqd : qd.size ≤ maxLen) :
    Calls Try.prog 6 #[v, .agg #[.int .i64 qc, .int .i64 qs, .int .i64 qk, .int .i64 qi, .int .i64 qm, .string qd]] w fun e w' => e = .returned (.bool true) ∧ Below w.heap.size w w' := by
  have hV' := hV
  obtain ⟨ao, cap, rfl, _⟩ := hV
  obtain ⟨hat, _, hml, hms⟩ := reqs_at hV'
  exact run ao _ cap L qc qs qk qi qm qd w rfl hms hat hqd

set_option maxRecDepth 100000 in
theorem lifted (os : Os) (started : os.Started) (H : Type) (enc : TypeId × Value → H) :
    ReturnsInHanded {} Try.checked os 6 .any (Rows.dirtyNoneSpec.pre6 enc Try.prog Try.f6 Rows.dirtyNoneRow.domain false) (Rows.dirtyNoneSpec.post enc Try.prog Try.f6 false true false false) := by
  refine returnsInHanded_of_change (C := Try.checked) own started (by kernel_rfl) Try.func6
    (ChangeSpec.witness6 (enc := enc) (C := Try.checked) false ⟨#[], #[.slice none 0 0, .agg #[.int .i64 0, .int .i64 0, .int .i64 0, .int .i64 0, .int .i64 0, .string ByteArray.empty]], []⟩ 8 (by kernel_rfl) (by kernel_rfl) (by kernel_rfl) (by kernel_rfl)) ?_
  intro W base args ds gs before hval0 hW hcnd _
  have hval : ∀ (j : Nat) t v, Try.f6.params[j]? = some t → args[j]? = some v → Value.okWide Try.prog W .any base t v := hval0
  have hW' := hW
  obtain ⟨p, q, hA0, hV, rfl, hfz, hnd⟩ := hW
  have hA : DataW.TrodAll enc Try.prog W 0 (fun _ => true) true Try.f6.params.toList args.toList ds p := hA0
  rw [Try.params6] at hA hval
  obtain ⟨v0, vs0, d0, ds0, p0, q0, hargs, rfl, rfl, h0, r0⟩ := trodAll_cons hA
  obtain ⟨v1, vs1, d1, ds1, p1, q1, rfl, rfl, rfl, h1, r1⟩ := trodAll_cons r0
  obtain ⟨rfl, rfl, rfl⟩ := trodAll_nil r1
  obtain rfl : args = #[v0, v1] := by cases args; simp_all
  obtain ⟨rfl, rfl⟩ := trodVars_none hV
  obtain ⟨a0, len0, cap0, rfl⟩ := okWide_slice Try.underlying29 (hval 0 29 v0 rfl rfl)
  have k0 := h0
  have lt0 : ∀ x ∈ p0, x.block < W.heap.size := by obtain ⟨m, hm⟩ := k0; exact DataW.trod_lt m _ _ _ hm
  obtain ⟨l0, w0⟩ := reqs_open h0
  have k1 := h1
  have lt1 : ∀ x ∈ p1, x.block < W.heap.size := by obtain ⟨m, hm⟩ := k1; exact DataW.trod_lt m _ _ _ hm
  obtain ⟨⟨xa1, xb1, xc1, xd1, xe1, xf1⟩, w1, rfl⟩ := req_open (hval 1 34 v1 rfl rfl) h1
  clear hA0 hval0
  refine (walk (.slice a0 len0 cap0) l0 xa1 xb1 xc1 xd1 xe1 xf1 W w0 w1).mono fun e W' ⟨he, bel⟩ => ?_
  subst he
  exact ⟨_, rfl, _, _, _, [], _, [], hW', trodAll_mk1 (shut_bool Try.underlying4 _), (trodAll_cons_mk (Below.trod laidOut (by kernel_rfl) (of_decide_eq_true (by kernel_rfl)) k0 bel lt0) (trodAll_cons_mk (Below.trod laidOut (by kernel_rfl) (of_decide_eq_true (by kernel_rfl)) k1 bel lt1) trodAll_mk0)), rfl, bel.frame _, fun h => by cases h⟩

theorem over : Rows.dirtyNoneRow.holds Try.pinned (OpenSpec.ofChange Rows.dirtyNoneSpec) :=
  OpenClaim.holds_of_wide 6 Try.f6 rfl rfl rfl rfl rfl rfl rfl ⟨rfl, rfl, rfl, rfl, rfl⟩ rfl rfl rfl rfl rfl (by kernel_rfl) Try.func6 (by kernel_rfl)
    (of_decide_eq_true (by kernel_rfl)) (by unfold Func.isWrapper; first | (rw [if_pos (by decide +kernel)]; kernel_rfl) | (rw [if_neg (by decide +kernel)]; exact ⟨rfl, rfl⟩))
    (fun os started H enc _ => lifted os started H enc)
end Go.Proofs.Ytenjjgghoacboaa.DirtyNone

namespace Go.Proofs.Ytenjjgghoacboaa
theorem dirtyNone_holds : Rows.DirtyNoneSaid := DirtyNone.over
#print axioms dirtyNone_holds
end Go.Proofs.Ytenjjgghoacboaa
