/-
  THE PROGRAM's ACCEPTOR: Learn, Accept. For an acceptor whose epoch can be counted on; chains of at most a million nodes.
-/
import Derived.Test.YtiidmiioegdfaaaAccC
import Derived.Test.YtiidmiioegdfaaaPackBase
namespace Go.Proofs.Ytiidmiioegdfaaa
open Go.RowKit

/-- What a call of Learn has made so far: the chain's box, the error so far. -/
structure LrnT (w : World) (g : Nat) (ec : Int) (cv : Value) (f : Int) (v : World) : Prop where
  c : ChT v w.heap.size ec cv
  g : NumB v g f
  bel : Below w.heap.size w v
/-- What a call of Accept has made so far: and the ballot's box. -/
structure AcqT (w : World) (g : Nat) (ec : Int) (cv : Value) (r k f : Int) (v : World) : Prop where
  c : ChT v w.heap.size ec cv
  q : BalB v (w.heap.size + 1) r k
  g : NumB v g f
  bel : Below w.heap.size w v
section
variable {w v v' : World} {g : Nat} {ec r k f f' : Int} {cv : Value}
theorem LrnT.on (h : LrnT w g ec cv f v) (hb : Below v.heap.size v v') : LrnT w g ec cv f v' := ⟨h.c.keep hb h.c.lt, h.g.on hb, h.bel.trans (hb.mono h.bel.size)⟩
theorem LrnT.told (h : LrnT w g ec cv f v) (hn : NumB v' g f') (ho : Only (· = g) v v') (hg : g = w.heap.size + 1) : LrnT w g ec cv f' v' :=
  ⟨(ho.block _ h.c.lt (by show _ ≠ _; omega)).trans h.c, hn, ho.below h.bel (fun x hx => by omega) h.bel.size⟩
theorem AcqT.on (h : AcqT w g ec cv r k f v) (hb : Below v.heap.size v v') : AcqT w g ec cv r k f v' := ⟨h.c.keep hb h.c.lt, h.q.keep hb h.q.lt, h.g.on hb, h.bel.trans (hb.mono h.bel.size)⟩
theorem AcqT.told (h : AcqT w g ec cv r k f v) (hn : NumB v' g f') (ho : Only (· = g) v v') (hg : g = w.heap.size + 2) : AcqT w g ec cv r k f' v' :=
  ⟨(ho.block _ h.c.lt (by show _ ≠ _; omega)).trans h.c, (ho.block _ h.q.lt (by show _ ≠ _; omega)).trans h.q, hn, ho.below h.bel (fun x hx => by omega) h.bel.size⟩
end
/-- A chain that is known, and no vote: stored. -/
theorem AccB.learnt {T : TypeId} {w : World} {p : Nat} {kv kv' cv cv' : Value} {s : AccV} (h : AccB T w p kv cv s) (ke : Int) (K : List Int) (v : VoteV) :
    AccB T (voteW (chainW w p 1 ke kv') p 3 v cv') p kv' cv' ⟨s.n, ke, K, v⟩ ∧ Only (· = p) w (voteW (chainW w p 1 ke kv') p 3 v cv') := by
  obtain ⟨h1, h2⟩ := h.known (kv' := kv') ke K
  obtain ⟨h3, h4⟩ := h1.voted (cv' := cv') v
  exact ⟨h3, h2.trans h4⟩

set_option maxRecDepth 100000 in
set_option maxHeartbeats 8000000 in
theorem aacc_r {w : World} {p : Nat} {s : AccV} (hA : Acc 76 w p s) (hw : wrap64 (s.ke + 1) = s.ke + 1) (ec : Int) (vv : Value) (L : List Int) (B : Nat) (hI : Ints w B vv L) (hB : B ≤ w.heap.size) (hlim : L.length ≤ 1000000) (r k : Int) (veto : Bool) {s' : AccV} {err : Int} (hs : accS s ec L r k veto = s') (herr : accE s ec L r k veto = err) :
    Calls Try.prog 26 #[.pointer (some ⟨p, 0, none⟩), .agg #[.int .i64 ec, vv], .agg #[.int .i64 r, .int .i64 k], .bool veto] w fun e w' => e = .returned (.int .i64 err) ∧ Hid (Acc 76 w' p s' ∧ Only (· = p) w w') := by
  obtain ⟨kv, cv, hA⟩ := hA
  obtain ⟨a0, c0, rfl⟩ : ∃ a c, vv = .slice a L.length c := by obtain ⟨a, c, h, _⟩ := hI; exact ⟨a, c, h⟩
  obtain ⟨m, hm⟩ : ∃ m, m = L.length := ⟨_, rfl⟩
  obtain ⟨g, hg⟩ : ∃ g, g = w.heap.size + 2 := ⟨_, rfl⟩
  have hp := hA.b.lt
  obtain ⟨M, hM⟩ : ∃ M, M = mayV r k := ⟨_, rfl⟩
  obtain ⟨Y, hY⟩ : ∃ Y, Y = decide (ChainV.may ⟨ec, L⟩) := ⟨_, rfl⟩
  obtain ⟨X, hX⟩ : ∃ X, X = decide (nextC s.ke s.K ec L s.n) := ⟨_, rfl⟩
  obtain ⟨D, hD⟩ : ∃ D, D = decide (cmpV r k s.v.pr s.v.pn < 0) := ⟨_, rfl⟩
  obtain ⟨Z, hZ⟩ : ∃ Z, Z = decide (mayV r k = false ∨ ¬ ChainV.may ⟨ec, L⟩) := ⟨_, rfl⟩
  have hZM : Z = (!M || !Y) := by rw [hZ, hM, hY]; cases mayV r k <;> by_cases h : ChainV.may ⟨ec, L⟩ <;> simp [h]
  obtain ⟨f1, hf1⟩ : ∃ f, firstV 0 Z 1 = f := ⟨_, rfl⟩
  obtain ⟨f3, hf3⟩ : ∃ f, firstV (firstV f1 (decide (ec ≤ s.ke)) 7) (decide (ec ≠ s.ke + 1)) 4 = f := ⟨_, rfl⟩
  obtain ⟨f4, hf4⟩ : ∃ f, firstV f3 (!X) 1 = f := ⟨_, rfl⟩
  obtain ⟨f5, hf5⟩ : ∃ f, firstV f4 D 7 = f := ⟨_, rfl⟩
  have hf6 : firstV f5 veto 8 = err := by rw [← hf5, ← hf4, ← hf3, ← hf1, hX, hD, hZ, ← herr]; exact acc_first s ec L r k veto
  have HF : Hid (∀ W, W.heap.size = g → Calls Try.prog 39 #[] W fun e w' => e = .returned (.func (.func 48) #[] #[.pointer (some ⟨g, 0, none⟩)]) ∧ w' = W.alloc (.cells #[.int .i64 0] 3)) := fun W h => by rw [← h]; exact afirst_any W
  have HMB : Hid (∀ u, Calls Try.prog 27 #[.agg #[.int .i64 r, .int .i64 k]] u fun e w' => e = .returned (.bool M) ∧ Below u.heap.size u w') := fun u => vmay_r r k u hM.symm
  have HMC : Hid (∀ u, Below w.heap.size w u → Calls Try.prog 43 #[.agg #[.int .i64 ec, .slice a0 m c0]] u fun e w' => e = .returned (.bool Y) ∧ Below u.heap.size u w') := fun u hu => by rw [hm]; exact maychain_r ec _ L B u (hI.keep (hu.mono hB)) (Nat.le_trans hB hu.size) Y hY
  have HT1 : Hid (∀ u, NumB u g 0 → Calls Try.prog 48 #[.bool Z, .int .i64 1, .pointer (some ⟨g, 0, none⟩)] u fun x w' => x = .returned (.int .i64 f1) ∧ NumB w' g f1 ∧ Only (· = g) u w') := fun u hu => atold_r Z 1 g 0 u hu hf1
  have HT3 : Hid (∀ u, AccB 76 u p kv cv s → NumB u g f1 → Calls Try.prog 40 #[.pointer (some ⟨p, 0, none⟩), .func (.func 48) #[] #[.pointer (some ⟨g, 0, none⟩)], .int .i64 ec] u fun x w' => x = .returned (.tuple #[]) ∧ NumB w' g f3 ∧ Only (· = g) u w') := fun u ha hu => atell_r ha hw ec g f1 hu (by omega) hf3
  have HNX : Hid (∀ u, Below w.heap.size w u → Calls Try.prog 44 #[.agg #[.int .i64 s.ke, kv], .agg #[.int .i64 ec, .slice a0 m c0], .int .i64 s.n] u fun e w' => e = .returned (.bool X) ∧ Below u.heap.size u w') := fun u hu => by
    rw [hm]; exact chnext_r s.ke kv s.K ec _ L s.n u.heap.size u (hA.on hu).k.ints ((hI.keep (hu.mono hB)).mono (Nat.le_trans hB hu.size)) (Nat.le_refl _) hX.symm
  have HT4 : Hid (∀ u, NumB u g f3 → Calls Try.prog 48 #[.bool (!X), .int .i64 1, .pointer (some ⟨g, 0, none⟩)] u fun x w' => x = .returned (.int .i64 f4) ∧ NumB w' g f4 ∧ Only (· = g) u w') := fun u hu => atold_r (!X) 1 g f3 u hu hf4
  have HC : Hid (∀ u, AccB 76 u p kv cv s → Calls Try.prog 41 #[.pointer (some ⟨p, 0, none⟩), .agg #[.int .i64 r, .int .i64 k]] u fun e w' => e = .returned (.bool D) ∧ Below u.heap.size u w') := fun u ha => amore_r ha r k hD.symm
  have HT5 : Hid (∀ u, NumB u g f4 → Calls Try.prog 48 #[.bool D, .int .i64 7, .pointer (some ⟨g, 0, none⟩)] u fun x w' => x = .returned (.int .i64 f5) ∧ NumB w' g f5 ∧ Only (· = g) u w') := fun u hu => atold_r D 7 g f4 u hu hf5
  have HT6 : Hid (∀ u, NumB u g f5 → Calls Try.prog 48 #[.bool veto, .int .i64 8, .pointer (some ⟨g, 0, none⟩)] u fun x w' => x = .returned (.int .i64 err) ∧ NumB w' g err ∧ Only (· = g) u w') := fun u hu => atold_r veto 8 g f5 u hu hf6
  have HCP : Hid (∀ u, Below w.heap.size w u → Calls Try.prog 45 #[.agg #[.int .i64 ec, .slice a0 m c0]] u fun e w' => ∃ a c, e = .returned (.agg #[.int .i64 ec, .slice a m c]) ∧ Hid (RowI w' (.slice a m c) L ∧ Below u.heap.size u w')) := fun u hu => by
    rw [hm]; exact acopy_r ec _ L B u (hI.keep (hu.mono hB)) (Nat.le_trans hB hu.size) hlim
  have HA := Lib.hid hA
  have HG := Lib.hid hg
  rw [← hm]
  have P0 : Hid (AcqT w g ec (.slice a0 m c0) r k 0 (((w.alloc (.cells #[.int .i64 ec, .slice a0 m c0] 26)).alloc (.cells #[.int .i64 r, .int .i64 k] 23)).alloc (.cells #[.int .i64 0] 3))) := by
    refine ⟨(ChT.fresh w _ _).keep (((Below.refl _ _).alloc (Nat.le_refl _) _).alloc (by simp) _) (by simp), ?_, ?_, (((Below.refl _ w).alloc (Nat.le_refl _) _).alloc (by simp) _).alloc (by simp; omega) _⟩
    · have h := BalB.fresh (w.alloc (.cells #[.int .i64 ec, .slice a0 m c0] 26)) r k
      rw [World.size_alloc] at h
      exact h.keep ((Below.refl _ _).alloc (Nat.le_refl _) _) (by simp)
    · have h := NumB.fresh ((w.alloc (.cells #[.int .i64 ec, .slice a0 m c0] 26)).alloc (.cells #[.int .i64 r, .int .i64 k] 23)) 0
      rw [World.size_alloc, World.size_alloc] at h
      rw [hg]
      exact h
  obtain ⟨c0', c1', _, _⟩ := P0.out.q.cells
  clear hM hY hX hD hZ hf1 hf3 hf4 hf5 hf6 hA hg hI hm hw
  go_enter Try.func26, Try.ntmps26
  go_wp2_with fail
  refine (HF.out _ ?hsz).mono ?_
  case hsz => have := HG.out; simp; omega
  rintro e w1 ⟨rfl, rfl⟩
  go_wp2_with fail
  refine (HMB.out _).mono ?_
  rintro e w2 ⟨rfl, B2⟩
  have P2 := Lib.hid (P0.out.on B2)
  clear B2 c0' c1' P0
  cases M with
  | false =>
    obtain rfl : Z = true := by rw [hZM]; rfl
    clear hZM
    go_wp2_with fail
    refine (HT1.out _ P2.out.g).mono ?_
    rintro e w3 ⟨rfl, N3, O3⟩
    have P3 := Lib.hid (P2.out.told N3 O3 HG.out)
    clear N3 O3 P2
    obtain ⟨c0', c1', _, _⟩ := P3.out.c.cells
    go_wp2_with fail
    refine (HT3.out _ (HA.out.b.on P3.out.bel) P3.out.g).mono ?_
    rintro e w4 ⟨rfl, N4, O4⟩
    have P4 := Lib.hid (P3.out.told N4 O4 HG.out)
    clear N4 O4 P3 c0' c1'
    go_wp2_with fail
    have HS : Hid (∀ u f, AcqT w g ec (.slice a0 m c0) r k f u → ((fun u => (u.cell? ⟨w.heap.size, 0, none⟩ = some (.int .i64 ec) ∧ u.cell? ⟨w.heap.size, 1, none⟩ = some (.slice a0 m c0)) ∧ u.cell? ⟨p, 0, none⟩ = some (.int .i64 s.n) ∧ u.cell? ⟨p, 1, none⟩ = some (.int .i64 s.ke) ∧ u.cell? ⟨p, 2, none⟩ = some kv)) u) := fun u f h => ⟨⟨h.c.cells.1, h.c.cells.2.1⟩, (HA.out.b.on h.bel).cells.1, (HA.out.b.on h.bel).cells.2.1, (HA.out.b.on h.bel).cells.2.2.1⟩
    refine wp_region_held_drew (S := (fun u => (u.cell? ⟨w.heap.size, 0, none⟩ = some (.int .i64 ec) ∧ u.cell? ⟨w.heap.size, 1, none⟩ = some (.slice a0 m c0)) ∧ u.cell? ⟨p, 0, none⟩ = some (.int .i64 s.n) ∧ u.cell? ⟨p, 1, none⟩ = some (.int .i64 s.ke) ∧ u.cell? ⟨p, 2, none⟩ = some kv)) (by kernel_rfl) (HS.out _ _ (P4.out.on (Below.drew (Below.refl _ _)))) (fun hHeld => ?_)
    first
      | (refine held_take 0 29 (v := ?_) rfl rfl (by kernel_rfl) (by kernel_rfl) (by kernel_rfl) (fun _ _ _ h => h) (by assumption) (by rfl) ?_ ?_; rotate_left; (focus (intro w hSw; obtain ⟨⟨hS0, hS1⟩, hS2, hS3, hS4⟩ := hSw; go_simp <;> with_reducible rfl)))
      | refine held_pass 0 29 rfl rfl (by kernel_rfl) (by kernel_rfl) (by kernel_rfl) (fun _ _ _ h => h) (by assumption) (by rfl) ?_
    simp only [Act.put, List.setIfInBounds_toArray, List.set_cons_zero, List.set_cons_succ]
    first
      | (refine held_take 1 30 (v := ?_) rfl rfl (by kernel_rfl) (by kernel_rfl) (by kernel_rfl) (fun _ _ _ h => h) (by assumption) (by rfl) ?_ ?_; rotate_left; (focus (intro w hSw; obtain ⟨⟨hS0, hS1⟩, hS2, hS3, hS4⟩ := hSw; go_simp <;> with_reducible rfl)))
      | refine held_pass 1 30 rfl rfl (by kernel_rfl) (by kernel_rfl) (by kernel_rfl) (fun _ _ _ h => h) (by assumption) (by rfl) ?_
    simp only [Act.put, List.setIfInBounds_toArray, List.set_cons_zero, List.set_cons_succ]
    first
      | (refine held_take 2 31 (v := ?_) rfl rfl (by kernel_rfl) (by kernel_rfl) (by kernel_rfl) (fun _ _ _ h => h) (by assumption) (by rfl) ?_ ?_; rotate_left; (focus (intro w hSw; obtain ⟨⟨hS0, hS1⟩, hS2, hS3, hS4⟩ := hSw; go_simp <;> with_reducible rfl)))
      | refine held_pass 2 31 rfl rfl (by kernel_rfl) (by kernel_rfl) (by kernel_rfl) (fun _ _ _ h => h) (by assumption) (by rfl) ?_
    simp only [Act.put, List.setIfInBounds_toArray, List.set_cons_zero, List.set_cons_succ]
    first
      | (refine held_take 3 32 (v := ?_) rfl rfl (by kernel_rfl) (by kernel_rfl) (by kernel_rfl) (fun _ _ _ h => h) (by assumption) (by rfl) ?_ ?_; rotate_left; (focus (intro w hSw; obtain ⟨⟨hS0, hS1⟩, hS2, hS3, hS4⟩ := hSw; go_simp <;> with_reducible rfl)))
      | refine held_pass 3 32 rfl rfl (by kernel_rfl) (by kernel_rfl) (by kernel_rfl) (fun _ _ _ h => h) (by assumption) (by rfl) ?_
    simp only [Act.put, List.setIfInBounds_toArray, List.set_cons_zero, List.set_cons_succ]
    first
      | (refine held_take 4 33 (v := ?_) rfl rfl (by kernel_rfl) (by kernel_rfl) (by kernel_rfl) (fun _ _ _ h => h) (by assumption) (by rfl) ?_ ?_; rotate_left; (focus (intro w hSw; obtain ⟨⟨hS0, hS1⟩, hS2, hS3, hS4⟩ := hSw; go_simp <;> with_reducible rfl)))
      | refine held_pass 4 33 rfl rfl (by kernel_rfl) (by kernel_rfl) (by kernel_rfl) (fun _ _ _ h => h) (by assumption) (by rfl) ?_
    simp only [Act.put, List.setIfInBounds_toArray, List.set_cons_zero, List.set_cons_succ]
    first
      | (refine held_take 5 34 (v := ?_) rfl rfl (by kernel_rfl) (by kernel_rfl) (by kernel_rfl) (fun _ _ _ h => h) (by assumption) (by rfl) ?_ ?_; rotate_left; (focus (intro w hSw; obtain ⟨⟨hS0, hS1⟩, hS2, hS3, hS4⟩ := hSw; go_simp <;> with_reducible rfl)))
      | refine held_pass 5 34 rfl rfl (by kernel_rfl) (by kernel_rfl) (by kernel_rfl) (fun _ _ _ h => h) (by assumption) (by rfl) ?_
    simp only [Act.put, List.setIfInBounds_toArray, List.set_cons_zero, List.set_cons_succ]
    first
      | (refine held_take 6 35 (v := ?_) rfl rfl (by kernel_rfl) (by kernel_rfl) (by kernel_rfl) (fun _ _ _ h => h) (by assumption) (by rfl) ?_ ?_; rotate_left; (focus (intro w hSw; obtain ⟨⟨hS0, hS1⟩, hS2, hS3, hS4⟩ := hSw; go_simp <;> with_reducible rfl)))
      | refine held_pass 6 35 rfl rfl (by kernel_rfl) (by kernel_rfl) (by kernel_rfl) (fun _ _ _ h => h) (by assumption) (by rfl) ?_
    simp only [Act.put, List.setIfInBounds_toArray, List.set_cons_zero, List.set_cons_succ]
    first
      | (refine held_take 7 36 (v := ?_) rfl rfl (by kernel_rfl) (by kernel_rfl) (by kernel_rfl) (fun _ _ _ h => h) (by assumption) (by rfl) ?_ ?_; rotate_left; (focus (intro w hSw; obtain ⟨⟨hS0, hS1⟩, hS2, hS3, hS4⟩ := hSw; go_simp <;> with_reducible rfl)))
      | refine held_pass 7 36 rfl rfl (by kernel_rfl) (by kernel_rfl) (by kernel_rfl) (fun _ _ _ h => h) (by assumption) (by rfl) ?_
    simp only [Act.put, List.setIfInBounds_toArray, List.set_cons_zero, List.set_cons_succ]
    first
      | (refine held_take 8 37 (v := ?_) rfl rfl (by kernel_rfl) (by kernel_rfl) (by kernel_rfl) (fun _ _ _ h => h) (by assumption) (by rfl) ?_ ?_; rotate_left; (focus (intro w hSw; obtain ⟨⟨hS0, hS1⟩, hS2, hS3, hS4⟩ := hSw; go_simp <;> with_reducible rfl)))
      | refine held_pass 8 37 rfl rfl (by kernel_rfl) (by kernel_rfl) (by kernel_rfl) (fun _ _ _ h => h) (by assumption) (by rfl) ?_
    simp only [Act.put, List.setIfInBounds_toArray, List.set_cons_zero, List.set_cons_succ]
    first
      | (refine held_take 9 38 (v := ?_) rfl rfl (by kernel_rfl) (by kernel_rfl) (by kernel_rfl) (fun _ _ _ h => h) (by assumption) (by rfl) ?_ ?_; rotate_left; (focus (intro w hSw; obtain ⟨⟨hS0, hS1⟩, hS2, hS3, hS4⟩ := hSw; go_simp <;> with_reducible rfl)))
      | refine held_pass 9 38 rfl rfl (by kernel_rfl) (by kernel_rfl) (by kernel_rfl) (fun _ _ _ h => h) (by assumption) (by rfl) ?_
    simp only [Act.put, List.setIfInBounds_toArray, List.set_cons_zero, List.set_cons_succ]
    refine held_call 10 39 rfl rfl (by kernel_rfl) (by rfl) (fun K hK => ?_)
    simp only [Go.wp_at_succ, Go.wp_at_zero]
    go_simp
    refine (HNX.out _ ?n1).mono ?_
    case n1 => exact (P4.out.on (Below.drew (Below.refl _ _))).bel
    rintro e w5 ⟨rfl, B5⟩
    have P5 := Lib.hid ((P4.out.on (Below.drew (Below.refl _ _))).on B5)
    clear B5
    first | (with_reducible refine hK.out _ _ ?_ (fun hHeld => ?_)) | (go_wp2_with fail; refine hK.out _ _ ?_ (fun hHeld => ?_))
    · exact HS.out _ _ P5.out
    clear hK K
    try simp only [Act.put, List.setIfInBounds_toArray, List.set_cons_zero, List.set_cons_succ]
    first
      | (refine held_take 11 40 (v := ?_) rfl rfl (by kernel_rfl) (by kernel_rfl) (by kernel_rfl) (fun _ _ _ h => h) (by assumption) (by rfl) ?_ ?_; rotate_left; (focus (intro w hSw; obtain ⟨⟨hS0, hS1⟩, hS2, hS3, hS4⟩ := hSw; go_simp <;> with_reducible rfl)))
      | refine held_pass 11 40 rfl rfl (by kernel_rfl) (by kernel_rfl) (by kernel_rfl) (fun _ _ _ h => h) (by assumption) (by rfl) ?_
    simp only [Act.put, List.setIfInBounds_toArray, List.set_cons_zero, List.set_cons_succ]
    refine held_call 12 41 rfl rfl (by kernel_rfl) (by rfl) (fun K hK => ?_)
    simp only [Go.wp_at_succ, Go.wp_at_zero]
    go_simp
    refine (HT4.out _ P5.out.g).mono ?_
    rintro e w6 ⟨rfl, N6, O6⟩
    have P6 := Lib.hid (P5.out.told N6 O6 HG.out)
    clear N6 O6
    first | (with_reducible refine hK.out _ _ ?_ (fun hHeld => ?_)) | (go_wp2_with fail; refine hK.out _ _ ?_ (fun hHeld => ?_))
    · exact HS.out _ _ P6.out
    clear hK K
    try simp only [Act.put, List.setIfInBounds_toArray, List.set_cons_zero, List.set_cons_succ]
    refine wpAnyH_done (by kernel_rfl) ?_ _
    clear HS P4 P5 hHeld
    obtain ⟨c0', c1', _, _⟩ := P6.out.q.cells
    go_wp2_with fail
    refine (HC.out _ (HA.out.b.on P6.out.bel)).mono ?_
    rintro e w7 ⟨rfl, B7⟩
    have P7 := Lib.hid (P6.out.on B7)
    clear B7 c0' c1' P6
    go_wp2_with fail
    refine (HT5.out _ P7.out.g).mono ?_
    rintro e w8 ⟨rfl, N8, O8⟩
    have P8 := Lib.hid (P7.out.told N8 O8 HG.out)
    clear N8 O8 P7
    go_wp2_with fail
    refine (HT6.out _ P8.out.g).mono ?_
    rintro e w9 ⟨rfl, N9, O9⟩
    have P9 := Lib.hid (P8.out.told N9 O9 HG.out)
    clear N9 O9 P8
    clear HF HMB HMC HT1 HT3 HT4 HT5 HT6 HNX HC
    by_cases h0 : err = 0
    · subst h0
      have hE : accE s ec L r k veto = 0 := herr
      have hS : s' = ⟨s.n, s.ke, s.K, ⟨r, k, r, k, true, ec, L⟩⟩ := by rw [← hs, accS, if_pos hE]
      subst hS
      clear hE hs herr
      go_wp2_with fail
      have HS : Hid (∀ u f, AcqT w g ec (.slice a0 m c0) r k f u → ((fun u => (u.cell? ⟨w.heap.size, 0, none⟩ = some (.int .i64 ec) ∧ u.cell? ⟨w.heap.size, 1, none⟩ = some (.slice a0 m c0)) ∧ u.cell? ⟨w.heap.size + 1, 0, none⟩ = some (.int .i64 r) ∧ u.cell? ⟨w.heap.size + 1, 1, none⟩ = some (.int .i64 k))) u) := fun u f h => ⟨⟨h.c.cells.1, h.c.cells.2.1⟩, h.q.cells.1, h.q.cells.2.1⟩
      refine wp_region_held_drew (S := (fun u => (u.cell? ⟨w.heap.size, 0, none⟩ = some (.int .i64 ec) ∧ u.cell? ⟨w.heap.size, 1, none⟩ = some (.slice a0 m c0)) ∧ u.cell? ⟨w.heap.size + 1, 0, none⟩ = some (.int .i64 r) ∧ u.cell? ⟨w.heap.size + 1, 1, none⟩ = some (.int .i64 k))) (by kernel_rfl) (HS.out _ _ (P9.out.on (Below.drew (Below.refl _ _)))) (fun hHeld => ?_)
      first
        | (refine held_take 0 53 (v := ?_) rfl rfl (by kernel_rfl) (by kernel_rfl) (by kernel_rfl) (fun _ _ _ h => h) (by assumption) (by rfl) ?_ ?_; rotate_left; (focus (intro w hSw; obtain ⟨⟨hS0, hS1⟩, hS2, hS3⟩ := hSw; go_simp <;> with_reducible rfl)))
        | refine held_pass 0 53 rfl rfl (by kernel_rfl) (by kernel_rfl) (by kernel_rfl) (fun _ _ _ h => h) (by assumption) (by rfl) ?_
      simp only [Act.put, List.setIfInBounds_toArray, List.set_cons_zero, List.set_cons_succ]
      first
        | (refine held_take 1 54 (v := ?_) rfl rfl (by kernel_rfl) (by kernel_rfl) (by kernel_rfl) (fun _ _ _ h => h) (by assumption) (by rfl) ?_ ?_; rotate_left; (focus (intro w hSw; obtain ⟨⟨hS0, hS1⟩, hS2, hS3⟩ := hSw; go_simp <;> with_reducible rfl)))
        | refine held_pass 1 54 rfl rfl (by kernel_rfl) (by kernel_rfl) (by kernel_rfl) (fun _ _ _ h => h) (by assumption) (by rfl) ?_
      simp only [Act.put, List.setIfInBounds_toArray, List.set_cons_zero, List.set_cons_succ]
      first
        | (refine held_take 2 55 (v := ?_) rfl rfl (by kernel_rfl) (by kernel_rfl) (by kernel_rfl) (fun _ _ _ h => h) (by assumption) (by rfl) ?_ ?_; rotate_left; (focus (intro w hSw; obtain ⟨⟨hS0, hS1⟩, hS2, hS3⟩ := hSw; go_simp <;> with_reducible rfl)))
        | refine held_pass 2 55 rfl rfl (by kernel_rfl) (by kernel_rfl) (by kernel_rfl) (fun _ _ _ h => h) (by assumption) (by rfl) ?_
      simp only [Act.put, List.setIfInBounds_toArray, List.set_cons_zero, List.set_cons_succ]
      first
        | (refine held_take 3 56 (v := ?_) rfl rfl (by kernel_rfl) (by kernel_rfl) (by kernel_rfl) (fun _ _ _ h => h) (by assumption) (by rfl) ?_ ?_; rotate_left; (focus (intro w hSw; obtain ⟨⟨hS0, hS1⟩, hS2, hS3⟩ := hSw; go_simp <;> with_reducible rfl)))
        | refine held_pass 3 56 rfl rfl (by kernel_rfl) (by kernel_rfl) (by kernel_rfl) (fun _ _ _ h => h) (by assumption) (by rfl) ?_
      simp only [Act.put, List.setIfInBounds_toArray, List.set_cons_zero, List.set_cons_succ]
      refine held_call 4 57 rfl rfl (by kernel_rfl) (by rfl) (fun K hK => ?_)
      simp only [Go.wp_at_succ, Go.wp_at_zero]
      go_simp
      refine (HCP.out _ ?n1).mono ?_
      case n1 => exact (P9.out.on (Below.drew (Below.refl _ _))).bel
      rintro e w10 ⟨a, c, rfl, H10⟩
      have P10 := Lib.hid ((P9.out.on (Below.drew (Below.refl _ _))).on H10.out.2)
      first | (with_reducible refine hK.out _ _ ?_ (fun hHeld => ?_)) | (go_wp2_with fail; refine hK.out _ _ ?_ (fun hHeld => ?_))
      · exact HS.out _ _ P10.out
      clear hK K
      try simp only [Act.put, List.setIfInBounds_toArray, List.set_cons_zero, List.set_cons_succ]
      first
        | (refine held_take 5 58 (v := ?_) rfl rfl (by kernel_rfl) (by kernel_rfl) (by kernel_rfl) (fun _ _ _ h => h) (by assumption) (by rfl) ?_ ?_; rotate_left; (focus (intro w hSw; obtain ⟨⟨hS0, hS1⟩, hS2, hS3⟩ := hSw; go_simp <;> with_reducible rfl)))
        | refine held_pass 5 58 rfl rfl (by kernel_rfl) (by kernel_rfl) (by kernel_rfl) (fun _ _ _ h => h) (by assumption) (by rfl) ?_
      simp only [Act.put, List.setIfInBounds_toArray, List.set_cons_zero, List.set_cons_succ]
      first
        | (refine held_take 6 59 (v := ?_) rfl rfl (by kernel_rfl) (by kernel_rfl) (by kernel_rfl) (fun _ _ _ h => h) (by assumption) (by rfl) ?_ ?_; rotate_left; (focus (intro w hSw; obtain ⟨⟨hS0, hS1⟩, hS2, hS3⟩ := hSw; go_simp <;> with_reducible rfl)))
        | refine held_pass 6 59 rfl rfl (by kernel_rfl) (by kernel_rfl) (by kernel_rfl) (fun _ _ _ h => h) (by assumption) (by rfl) ?_
      simp only [Act.put, List.setIfInBounds_toArray, List.set_cons_zero, List.set_cons_succ]
      first
        | (refine held_take 7 60 (v := ?_) rfl rfl (by kernel_rfl) (by kernel_rfl) (by kernel_rfl) (fun _ _ _ h => h) (by assumption) (by rfl) ?_ ?_; rotate_left; (focus (intro w hSw; obtain ⟨⟨hS0, hS1⟩, hS2, hS3⟩ := hSw; go_simp <;> with_reducible rfl)))
        | refine held_pass 7 60 rfl rfl (by kernel_rfl) (by kernel_rfl) (by kernel_rfl) (fun _ _ _ h => h) (by assumption) (by rfl) ?_
      simp only [Act.put, List.setIfInBounds_toArray, List.set_cons_zero, List.set_cons_succ]
      have a10 := HA.out.on P10.out.bel
      have A10 := Lib.hid a10
      obtain ⟨_, _, _, y3, y4, y5, y6, y7, y8, y9⟩ := a10.b.cells
      have z3 := a10.b.free 3
      have z4 := a10.b.free 4
      have z5 := a10.b.free 5
      have z6 := a10.b.free 6
      have z7 := a10.b.free 7
      have z8 := a10.b.free 8
      have z9 := a10.b.free 9
      obtain ⟨k1, k2⟩ := a10.b.voted (cv' := .slice a m c) ⟨r, k, r, k, true, ec, L⟩
      have K1 := Lib.hid k1
      have K2 := Lib.hid k2
      have hlt := HA.out.b.lt
      have KS : Hid ((fun u => (u.cell? ⟨w.heap.size, 0, none⟩ = some (.int .i64 ec) ∧ u.cell? ⟨w.heap.size, 1, none⟩ = some (.slice a0 m c0)) ∧ u.cell? ⟨w.heap.size + 1, 0, none⟩ = some (.int .i64 r) ∧ u.cell? ⟨w.heap.size + 1, 1, none⟩ = some (.int .i64 k)) (voteW w10 p 3 ⟨r, k, r, k, true, ec, L⟩ (.slice a m c))) := ⟨⟨(k2.cell (p := ⟨w.heap.size, 0, none⟩) P10.out.c.lt (by simp; omega)).trans P10.out.c.cells.1, (k2.cell (p := ⟨w.heap.size, 1, none⟩) P10.out.c.lt (by simp; omega)).trans P10.out.c.cells.2.1⟩, (k2.cell (p := ⟨w.heap.size + 1, 0, none⟩) P10.out.q.lt (by simp; omega)).trans P10.out.q.cells.1, (k2.cell (p := ⟨w.heap.size + 1, 1, none⟩) P10.out.q.lt (by simp; omega)).trans P10.out.q.cells.2.1⟩
      clear k1 k2 a10
      refine wpAnyH_ready (rs := [8]) (by kernel_rfl) (by simp) (AllReadyH.cons rfl (fun K hK => ?_) AllReadyH.nil)
      try simp only [Go.wp_at_succ, Go.wp_at_zero]
      go_simp
      refine hK.out _ _ ?_ (fun hHeld => ?_)
      · exact KS.out
      clear hK K
      try simp only [Act.put, List.setIfInBounds_toArray, List.set_cons_zero, List.set_cons_succ]
      refine wpAnyH_done (by kernel_rfl) ?_ _
      go_wp2
      go_returns
      exact ⟨rfl, ⟨kv, _, K1.out, A10.out.k.beside A10.out.b (by decide) K2.out, H10.out.1.beside A10.out.b (by decide) K2.out⟩, (Only.of P10.out.bel).then K2.out (fun x _ hx => hx)⟩
    · have hE : ¬ accE s ec L r k veto = 0 := by rw [herr]; exact h0
      have hS : s' = s := by rw [← hs, accS, if_neg hE]
      subst hS
      have hb : (err != 0) = true := by simp [h0]
      clear hE h0 hs herr
      go_wp2
      go_returns
      exact ⟨rfl, ⟨kv, cv, HA.out.on P9.out.bel⟩, .of P9.out.bel⟩
  | true =>
    obtain rfl : Z = !Y := by rw [hZM]; rfl
    clear hZM
    obtain ⟨c0', c1', _, _⟩ := P2.out.c.cells
    go_wp2_with fail
    refine (HMC.out _ P2.out.bel).mono ?_
    rintro e w2b ⟨rfl, B2⟩
    have P2b := Lib.hid (P2.out.on B2)
    clear B2 c0' c1' P2
    have P2 := P2b
    clear P2b
    go_wp2_with fail
    refine (HT1.out _ P2.out.g).mono ?_
    rintro e w3 ⟨rfl, N3, O3⟩
    have P3 := Lib.hid (P2.out.told N3 O3 HG.out)
    clear N3 O3 P2
    obtain ⟨c0', c1', _, _⟩ := P3.out.c.cells
    go_wp2_with fail
    refine (HT3.out _ (HA.out.b.on P3.out.bel) P3.out.g).mono ?_
    rintro e w4 ⟨rfl, N4, O4⟩
    have P4 := Lib.hid (P3.out.told N4 O4 HG.out)
    clear N4 O4 P3 c0' c1'
    go_wp2_with fail
    have HS : Hid (∀ u f, AcqT w g ec (.slice a0 m c0) r k f u → ((fun u => (u.cell? ⟨w.heap.size, 0, none⟩ = some (.int .i64 ec) ∧ u.cell? ⟨w.heap.size, 1, none⟩ = some (.slice a0 m c0)) ∧ u.cell? ⟨p, 0, none⟩ = some (.int .i64 s.n) ∧ u.cell? ⟨p, 1, none⟩ = some (.int .i64 s.ke) ∧ u.cell? ⟨p, 2, none⟩ = some kv)) u) := fun u f h => ⟨⟨h.c.cells.1, h.c.cells.2.1⟩, (HA.out.b.on h.bel).cells.1, (HA.out.b.on h.bel).cells.2.1, (HA.out.b.on h.bel).cells.2.2.1⟩
    refine wp_region_held_drew (S := (fun u => (u.cell? ⟨w.heap.size, 0, none⟩ = some (.int .i64 ec) ∧ u.cell? ⟨w.heap.size, 1, none⟩ = some (.slice a0 m c0)) ∧ u.cell? ⟨p, 0, none⟩ = some (.int .i64 s.n) ∧ u.cell? ⟨p, 1, none⟩ = some (.int .i64 s.ke) ∧ u.cell? ⟨p, 2, none⟩ = some kv)) (by kernel_rfl) (HS.out _ _ (P4.out.on (Below.drew (Below.refl _ _)))) (fun hHeld => ?_)
    first
      | (refine held_take 0 29 (v := ?_) rfl rfl (by kernel_rfl) (by kernel_rfl) (by kernel_rfl) (fun _ _ _ h => h) (by assumption) (by rfl) ?_ ?_; rotate_left; (focus (intro w hSw; obtain ⟨⟨hS0, hS1⟩, hS2, hS3, hS4⟩ := hSw; go_simp <;> with_reducible rfl)))
      | refine held_pass 0 29 rfl rfl (by kernel_rfl) (by kernel_rfl) (by kernel_rfl) (fun _ _ _ h => h) (by assumption) (by rfl) ?_
    simp only [Act.put, List.setIfInBounds_toArray, List.set_cons_zero, List.set_cons_succ]
    first
      | (refine held_take 1 30 (v := ?_) rfl rfl (by kernel_rfl) (by kernel_rfl) (by kernel_rfl) (fun _ _ _ h => h) (by assumption) (by rfl) ?_ ?_; rotate_left; (focus (intro w hSw; obtain ⟨⟨hS0, hS1⟩, hS2, hS3, hS4⟩ := hSw; go_simp <;> with_reducible rfl)))
      | refine held_pass 1 30 rfl rfl (by kernel_rfl) (by kernel_rfl) (by kernel_rfl) (fun _ _ _ h => h) (by assumption) (by rfl) ?_
    simp only [Act.put, List.setIfInBounds_toArray, List.set_cons_zero, List.set_cons_succ]
    first
      | (refine held_take 2 31 (v := ?_) rfl rfl (by kernel_rfl) (by kernel_rfl) (by kernel_rfl) (fun _ _ _ h => h) (by assumption) (by rfl) ?_ ?_; rotate_left; (focus (intro w hSw; obtain ⟨⟨hS0, hS1⟩, hS2, hS3, hS4⟩ := hSw; go_simp <;> with_reducible rfl)))
      | refine held_pass 2 31 rfl rfl (by kernel_rfl) (by kernel_rfl) (by kernel_rfl) (fun _ _ _ h => h) (by assumption) (by rfl) ?_
    simp only [Act.put, List.setIfInBounds_toArray, List.set_cons_zero, List.set_cons_succ]
    first
      | (refine held_take 3 32 (v := ?_) rfl rfl (by kernel_rfl) (by kernel_rfl) (by kernel_rfl) (fun _ _ _ h => h) (by assumption) (by rfl) ?_ ?_; rotate_left; (focus (intro w hSw; obtain ⟨⟨hS0, hS1⟩, hS2, hS3, hS4⟩ := hSw; go_simp <;> with_reducible rfl)))
      | refine held_pass 3 32 rfl rfl (by kernel_rfl) (by kernel_rfl) (by kernel_rfl) (fun _ _ _ h => h) (by assumption) (by rfl) ?_
    simp only [Act.put, List.setIfInBounds_toArray, List.set_cons_zero, List.set_cons_succ]
    first
      | (refine held_take 4 33 (v := ?_) rfl rfl (by kernel_rfl) (by kernel_rfl) (by kernel_rfl) (fun _ _ _ h => h) (by assumption) (by rfl) ?_ ?_; rotate_left; (focus (intro w hSw; obtain ⟨⟨hS0, hS1⟩, hS2, hS3, hS4⟩ := hSw; go_simp <;> with_reducible rfl)))
      | refine held_pass 4 33 rfl rfl (by kernel_rfl) (by kernel_rfl) (by kernel_rfl) (fun _ _ _ h => h) (by assumption) (by rfl) ?_
    simp only [Act.put, List.setIfInBounds_toArray, List.set_cons_zero, List.set_cons_succ]
    first
      | (refine held_take 5 34 (v := ?_) rfl rfl (by kernel_rfl) (by kernel_rfl) (by kernel_rfl) (fun _ _ _ h => h) (by assumption) (by rfl) ?_ ?_; rotate_left; (focus (intro w hSw; obtain ⟨⟨hS0, hS1⟩, hS2, hS3, hS4⟩ := hSw; go_simp <;> with_reducible rfl)))
      | refine held_pass 5 34 rfl rfl (by kernel_rfl) (by kernel_rfl) (by kernel_rfl) (fun _ _ _ h => h) (by assumption) (by rfl) ?_
    simp only [Act.put, List.setIfInBounds_toArray, List.set_cons_zero, List.set_cons_succ]
    first
      | (refine held_take 6 35 (v := ?_) rfl rfl (by kernel_rfl) (by kernel_rfl) (by kernel_rfl) (fun _ _ _ h => h) (by assumption) (by rfl) ?_ ?_; rotate_left; (focus (intro w hSw; obtain ⟨⟨hS0, hS1⟩, hS2, hS3, hS4⟩ := hSw; go_simp <;> with_reducible rfl)))
      | refine held_pass 6 35 rfl rfl (by kernel_rfl) (by kernel_rfl) (by kernel_rfl) (fun _ _ _ h => h) (by assumption) (by rfl) ?_
    simp only [Act.put, List.setIfInBounds_toArray, List.set_cons_zero, List.set_cons_succ]
    first
      | (refine held_take 7 36 (v := ?_) rfl rfl (by kernel_rfl) (by kernel_rfl) (by kernel_rfl) (fun _ _ _ h => h) (by assumption) (by rfl) ?_ ?_; rotate_left; (focus (intro w hSw; obtain ⟨⟨hS0, hS1⟩, hS2, hS3, hS4⟩ := hSw; go_simp <;> with_reducible rfl)))
      | refine held_pass 7 36 rfl rfl (by kernel_rfl) (by kernel_rfl) (by kernel_rfl) (fun _ _ _ h => h) (by assumption) (by rfl) ?_
    simp only [Act.put, List.setIfInBounds_toArray, List.set_cons_zero, List.set_cons_succ]
    first
      | (refine held_take 8 37 (v := ?_) rfl rfl (by kernel_rfl) (by kernel_rfl) (by kernel_rfl) (fun _ _ _ h => h) (by assumption) (by rfl) ?_ ?_; rotate_left; (focus (intro w hSw; obtain ⟨⟨hS0, hS1⟩, hS2, hS3, hS4⟩ := hSw; go_simp <;> with_reducible rfl)))
      | refine held_pass 8 37 rfl rfl (by kernel_rfl) (by kernel_rfl) (by kernel_rfl) (fun _ _ _ h => h) (by assumption) (by rfl) ?_
    simp only [Act.put, List.setIfInBounds_toArray, List.set_cons_zero, List.set_cons_succ]
    first
      | (refine held_take 9 38 (v := ?_) rfl rfl (by kernel_rfl) (by kernel_rfl) (by kernel_rfl) (fun _ _ _ h => h) (by assumption) (by rfl) ?_ ?_; rotate_left; (focus (intro w hSw; obtain ⟨⟨hS0, hS1⟩, hS2, hS3, hS4⟩ := hSw; go_simp <;> with_reducible rfl)))
      | refine held_pass 9 38 rfl rfl (by kernel_rfl) (by kernel_rfl) (by kernel_rfl) (fun _ _ _ h => h) (by assumption) (by rfl) ?_
    simp only [Act.put, List.setIfInBounds_toArray, List.set_cons_zero, List.set_cons_succ]
    refine held_call 10 39 rfl rfl (by kernel_rfl) (by rfl) (fun K hK => ?_)
    simp only [Go.wp_at_succ, Go.wp_at_zero]
    go_simp
    refine (HNX.out _ ?n1).mono ?_
    case n1 => exact (P4.out.on (Below.drew (Below.refl _ _))).bel
    rintro e w5 ⟨rfl, B5⟩
    have P5 := Lib.hid ((P4.out.on (Below.drew (Below.refl _ _))).on B5)
    clear B5
    first | (with_reducible refine hK.out _ _ ?_ (fun hHeld => ?_)) | (go_wp2_with fail; refine hK.out _ _ ?_ (fun hHeld => ?_))
    · exact HS.out _ _ P5.out
    clear hK K
    try simp only [Act.put, List.setIfInBounds_toArray, List.set_cons_zero, List.set_cons_succ]
    first
      | (refine held_take 11 40 (v := ?_) rfl rfl (by kernel_rfl) (by kernel_rfl) (by kernel_rfl) (fun _ _ _ h => h) (by assumption) (by rfl) ?_ ?_; rotate_left; (focus (intro w hSw; obtain ⟨⟨hS0, hS1⟩, hS2, hS3, hS4⟩ := hSw; go_simp <;> with_reducible rfl)))
      | refine held_pass 11 40 rfl rfl (by kernel_rfl) (by kernel_rfl) (by kernel_rfl) (fun _ _ _ h => h) (by assumption) (by rfl) ?_
    simp only [Act.put, List.setIfInBounds_toArray, List.set_cons_zero, List.set_cons_succ]
    refine held_call 12 41 rfl rfl (by kernel_rfl) (by rfl) (fun K hK => ?_)
    simp only [Go.wp_at_succ, Go.wp_at_zero]
    go_simp
    refine (HT4.out _ P5.out.g).mono ?_
    rintro e w6 ⟨rfl, N6, O6⟩
    have P6 := Lib.hid (P5.out.told N6 O6 HG.out)
    clear N6 O6
    first | (with_reducible refine hK.out _ _ ?_ (fun hHeld => ?_)) | (go_wp2_with fail; refine hK.out _ _ ?_ (fun hHeld => ?_))
    · exact HS.out _ _ P6.out
    clear hK K
    try simp only [Act.put, List.setIfInBounds_toArray, List.set_cons_zero, List.set_cons_succ]
    refine wpAnyH_done (by kernel_rfl) ?_ _
    clear HS P4 P5 hHeld
    obtain ⟨c0', c1', _, _⟩ := P6.out.q.cells
    go_wp2_with fail
    refine (HC.out _ (HA.out.b.on P6.out.bel)).mono ?_
    rintro e w7 ⟨rfl, B7⟩
    have P7 := Lib.hid (P6.out.on B7)
    clear B7 c0' c1' P6
    go_wp2_with fail
    refine (HT5.out _ P7.out.g).mono ?_
    rintro e w8 ⟨rfl, N8, O8⟩
    have P8 := Lib.hid (P7.out.told N8 O8 HG.out)
    clear N8 O8 P7
    go_wp2_with fail
    refine (HT6.out _ P8.out.g).mono ?_
    rintro e w9 ⟨rfl, N9, O9⟩
    have P9 := Lib.hid (P8.out.told N9 O9 HG.out)
    clear N9 O9 P8
    clear HF HMB HMC HT1 HT3 HT4 HT5 HT6 HNX HC
    by_cases h0 : err = 0
    · subst h0
      have hE : accE s ec L r k veto = 0 := herr
      have hS : s' = ⟨s.n, s.ke, s.K, ⟨r, k, r, k, true, ec, L⟩⟩ := by rw [← hs, accS, if_pos hE]
      subst hS
      clear hE hs herr
      go_wp2_with fail
      have HS : Hid (∀ u f, AcqT w g ec (.slice a0 m c0) r k f u → ((fun u => (u.cell? ⟨w.heap.size, 0, none⟩ = some (.int .i64 ec) ∧ u.cell? ⟨w.heap.size, 1, none⟩ = some (.slice a0 m c0)) ∧ u.cell? ⟨w.heap.size + 1, 0, none⟩ = some (.int .i64 r) ∧ u.cell? ⟨w.heap.size + 1, 1, none⟩ = some (.int .i64 k))) u) := fun u f h => ⟨⟨h.c.cells.1, h.c.cells.2.1⟩, h.q.cells.1, h.q.cells.2.1⟩
      refine wp_region_held_drew (S := (fun u => (u.cell? ⟨w.heap.size, 0, none⟩ = some (.int .i64 ec) ∧ u.cell? ⟨w.heap.size, 1, none⟩ = some (.slice a0 m c0)) ∧ u.cell? ⟨w.heap.size + 1, 0, none⟩ = some (.int .i64 r) ∧ u.cell? ⟨w.heap.size + 1, 1, none⟩ = some (.int .i64 k))) (by kernel_rfl) (HS.out _ _ (P9.out.on (Below.drew (Below.refl _ _)))) (fun hHeld => ?_)
      first
        | (refine held_take 0 53 (v := ?_) rfl rfl (by kernel_rfl) (by kernel_rfl) (by kernel_rfl) (fun _ _ _ h => h) (by assumption) (by rfl) ?_ ?_; rotate_left; (focus (intro w hSw; obtain ⟨⟨hS0, hS1⟩, hS2, hS3⟩ := hSw; go_simp <;> with_reducible rfl)))
        | refine held_pass 0 53 rfl rfl (by kernel_rfl) (by kernel_rfl) (by kernel_rfl) (fun _ _ _ h => h) (by assumption) (by rfl) ?_
      simp only [Act.put, List.setIfInBounds_toArray, List.set_cons_zero, List.set_cons_succ]
      first
        | (refine held_take 1 54 (v := ?_) rfl rfl (by kernel_rfl) (by kernel_rfl) (by kernel_rfl) (fun _ _ _ h => h) (by assumption) (by rfl) ?_ ?_; rotate_left; (focus (intro w hSw; obtain ⟨⟨hS0, hS1⟩, hS2, hS3⟩ := hSw; go_simp <;> with_reducible rfl)))
        | refine held_pass 1 54 rfl rfl (by kernel_rfl) (by kernel_rfl) (by kernel_rfl) (fun _ _ _ h => h) (by assumption) (by rfl) ?_
      simp only [Act.put, List.setIfInBounds_toArray, List.set_cons_zero, List.set_cons_succ]
      first
        | (refine held_take 2 55 (v := ?_) rfl rfl (by kernel_rfl) (by kernel_rfl) (by kernel_rfl) (fun _ _ _ h => h) (by assumption) (by rfl) ?_ ?_; rotate_left; (focus (intro w hSw; obtain ⟨⟨hS0, hS1⟩, hS2, hS3⟩ := hSw; go_simp <;> with_reducible rfl)))
        | refine held_pass 2 55 rfl rfl (by kernel_rfl) (by kernel_rfl) (by kernel_rfl) (fun _ _ _ h => h) (by assumption) (by rfl) ?_
      simp only [Act.put, List.setIfInBounds_toArray, List.set_cons_zero, List.set_cons_succ]
      first
        | (refine held_take 3 56 (v := ?_) rfl rfl (by kernel_rfl) (by kernel_rfl) (by kernel_rfl) (fun _ _ _ h => h) (by assumption) (by rfl) ?_ ?_; rotate_left; (focus (intro w hSw; obtain ⟨⟨hS0, hS1⟩, hS2, hS3⟩ := hSw; go_simp <;> with_reducible rfl)))
        | refine held_pass 3 56 rfl rfl (by kernel_rfl) (by kernel_rfl) (by kernel_rfl) (fun _ _ _ h => h) (by assumption) (by rfl) ?_
      simp only [Act.put, List.setIfInBounds_toArray, List.set_cons_zero, List.set_cons_succ]
      refine held_call 4 57 rfl rfl (by kernel_rfl) (by rfl) (fun K hK => ?_)
      simp only [Go.wp_at_succ, Go.wp_at_zero]
      go_simp
      refine (HCP.out _ ?n1).mono ?_
      case n1 => exact (P9.out.on (Below.drew (Below.refl _ _))).bel
      rintro e w10 ⟨a, c, rfl, H10⟩
      have P10 := Lib.hid ((P9.out.on (Below.drew (Below.refl _ _))).on H10.out.2)
      first | (with_reducible refine hK.out _ _ ?_ (fun hHeld => ?_)) | (go_wp2_with fail; refine hK.out _ _ ?_ (fun hHeld => ?_))
      · exact HS.out _ _ P10.out
      clear hK K
      try simp only [Act.put, List.setIfInBounds_toArray, List.set_cons_zero, List.set_cons_succ]
      first
        | (refine held_take 5 58 (v := ?_) rfl rfl (by kernel_rfl) (by kernel_rfl) (by kernel_rfl) (fun _ _ _ h => h) (by assumption) (by rfl) ?_ ?_; rotate_left; (focus (intro w hSw; obtain ⟨⟨hS0, hS1⟩, hS2, hS3⟩ := hSw; go_simp <;> with_reducible rfl)))
        | refine held_pass 5 58 rfl rfl (by kernel_rfl) (by kernel_rfl) (by kernel_rfl) (fun _ _ _ h => h) (by assumption) (by rfl) ?_
      simp only [Act.put, List.setIfInBounds_toArray, List.set_cons_zero, List.set_cons_succ]
      first
        | (refine held_take 6 59 (v := ?_) rfl rfl (by kernel_rfl) (by kernel_rfl) (by kernel_rfl) (fun _ _ _ h => h) (by assumption) (by rfl) ?_ ?_; rotate_left; (focus (intro w hSw; obtain ⟨⟨hS0, hS1⟩, hS2, hS3⟩ := hSw; go_simp <;> with_reducible rfl)))
        | refine held_pass 6 59 rfl rfl (by kernel_rfl) (by kernel_rfl) (by kernel_rfl) (fun _ _ _ h => h) (by assumption) (by rfl) ?_
      simp only [Act.put, List.setIfInBounds_toArray, List.set_cons_zero, List.set_cons_succ]
      first
        | (refine held_take 7 60 (v := ?_) rfl rfl (by kernel_rfl) (by kernel_rfl) (by kernel_rfl) (fun _ _ _ h => h) (by assumption) (by rfl) ?_ ?_; rotate_left; (focus (intro w hSw; obtain ⟨⟨hS0, hS1⟩, hS2, hS3⟩ := hSw; go_simp <;> with_reducible rfl)))
        | refine held_pass 7 60 rfl rfl (by kernel_rfl) (by kernel_rfl) (by kernel_rfl) (fun _ _ _ h => h) (by assumption) (by rfl) ?_
      simp only [Act.put, List.setIfInBounds_toArray, List.set_cons_zero, List.set_cons_succ]
      have a10 := HA.out.on P10.out.bel
      have A10 := Lib.hid a10
      obtain ⟨_, _, _, y3, y4, y5, y6, y7, y8, y9⟩ := a10.b.cells
      have z3 := a10.b.free 3
      have z4 := a10.b.free 4
      have z5 := a10.b.free 5
      have z6 := a10.b.free 6
      have z7 := a10.b.free 7
      have z8 := a10.b.free 8
      have z9 := a10.b.free 9
      obtain ⟨k1, k2⟩ := a10.b.voted (cv' := .slice a m c) ⟨r, k, r, k, true, ec, L⟩
      have K1 := Lib.hid k1
      have K2 := Lib.hid k2
      have hlt := HA.out.b.lt
      have KS : Hid ((fun u => (u.cell? ⟨w.heap.size, 0, none⟩ = some (.int .i64 ec) ∧ u.cell? ⟨w.heap.size, 1, none⟩ = some (.slice a0 m c0)) ∧ u.cell? ⟨w.heap.size + 1, 0, none⟩ = some (.int .i64 r) ∧ u.cell? ⟨w.heap.size + 1, 1, none⟩ = some (.int .i64 k)) (voteW w10 p 3 ⟨r, k, r, k, true, ec, L⟩ (.slice a m c))) := ⟨⟨(k2.cell (p := ⟨w.heap.size, 0, none⟩) P10.out.c.lt (by simp; omega)).trans P10.out.c.cells.1, (k2.cell (p := ⟨w.heap.size, 1, none⟩) P10.out.c.lt (by simp; omega)).trans P10.out.c.cells.2.1⟩, (k2.cell (p := ⟨w.heap.size + 1, 0, none⟩) P10.out.q.lt (by simp; omega)).trans P10.out.q.cells.1, (k2.cell (p := ⟨w.heap.size + 1, 1, none⟩) P10.out.q.lt (by simp; omega)).trans P10.out.q.cells.2.1⟩
      clear k1 k2 a10
      refine wpAnyH_ready (rs := [8]) (by kernel_rfl) (by simp) (AllReadyH.cons rfl (fun K hK => ?_) AllReadyH.nil)
      try simp only [Go.wp_at_succ, Go.wp_at_zero]
      go_simp
      refine hK.out _ _ ?_ (fun hHeld => ?_)
      · exact KS.out
      clear hK K
      try simp only [Act.put, List.setIfInBounds_toArray, List.set_cons_zero, List.set_cons_succ]
      refine wpAnyH_done (by kernel_rfl) ?_ _
      go_wp2
      go_returns
      exact ⟨rfl, ⟨kv, _, K1.out, A10.out.k.beside A10.out.b (by decide) K2.out, H10.out.1.beside A10.out.b (by decide) K2.out⟩, (Only.of P10.out.bel).then K2.out (fun x _ hx => hx)⟩
    · have hE : ¬ accE s ec L r k veto = 0 := by rw [herr]; exact h0
      have hS : s' = s := by rw [← hs, accS, if_neg hE]
      subst hS
      have hb : (err != 0) = true := by simp [h0]
      clear hE h0 hs herr
      go_wp2
      go_returns
      exact ⟨rfl, ⟨kv, cv, HA.out.on P9.out.bel⟩, .of P9.out.bel⟩

end Go.Proofs.Ytiidmiioegdfaaa
