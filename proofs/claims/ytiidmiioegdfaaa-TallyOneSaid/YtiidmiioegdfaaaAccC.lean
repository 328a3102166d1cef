/-
  THE PROGRAM's ACCEPTOR: Prepare. For an acceptor whose epoch can be counted on; chains of at most a million nodes.
-/
import Derived.Test.YtiidmiioegdfaaaAccB
namespace Go.Proofs.Ytiidmiioegdfaaa
open Go.RowKit

/-- What a call of Prepare has made so far: the ballot's box, the vote that it will tell, the error so far. -/
structure PrepT (w : World) (g : Nat) (r k f : Int) (v : World) : Prop where
  q : BalB v w.heap.size r k
  r : VotB v (w.heap.size + 1) VoteV.zero (.slice none 0 0)
  g : NumB v g f
  bel : Below w.heap.size w v
section
variable {w v v' : World} {g : Nat} {r k f f' : Int}
theorem PrepT.on (h : PrepT w g r k f v) (hb : Below v.heap.size v v') : PrepT w g r k f v' := ⟨h.q.keep hb h.q.lt, h.r.keep hb h.r.lt, h.g.on hb, h.bel.trans (hb.mono h.bel.size)⟩
theorem PrepT.told (h : PrepT w g r k f v) (hn : NumB v' g f') (ho : Only (· = g) v v') (hg : g = w.heap.size + 2) : PrepT w g r k f' v' :=
  ⟨(ho.block _ h.q.lt (by show _ ≠ _; omega)).trans h.q, (ho.block _ h.r.lt (by show _ ≠ _; omega)).trans h.r, hn, ho.below h.bel (fun x hx => by omega) h.bel.size⟩
theorem PrepT.acc (h : PrepT w g r k f v) {T : TypeId} {p : Nat} {kv cv : Value} {s : AccV} (hA : AccR T w p kv cv s) : AccR T v p kv cv s := hA.on h.bel
end

set_option maxRecDepth 100000 in
set_option maxHeartbeats 4000000 in
theorem aprep_r {w : World} {p : Nat} {s : AccV} (hA : Acc 76 w p s) (hw : wrap64 (s.ke + 1) = s.ke + 1) (hl : s.v.C.length ≤ 1000000) (ep r k : Int) {s' : AccV} {V : VoteV} {err : Int} (hs : prepS s ep r k = s') (hv : prepV s ep r k = V) (herr : prepE s ep r k = err) :
    Calls Try.prog 25 #[.pointer (some ⟨p, 0, none⟩), .int .i64 ep, .agg #[.int .i64 r, .int .i64 k]] w fun e w' => ∃ a c, e = .returned (.tuple #[.agg #[.int .i64 V.pr, .int .i64 V.pn, .int .i64 V.ar, .int .i64 V.an, .bool V.has, .int .i64 V.ce, .slice a V.C.length c], .int .i64 err]) ∧ Hid (RowI w' (.slice a V.C.length c) V.C ∧ Acc 76 w' p s' ∧ Only (· = p) w w') := by
  obtain ⟨kv, cv, hA⟩ := hA
  obtain ⟨g, hg⟩ : ∃ g, g = w.heap.size + 2 := ⟨_, rfl⟩
  have hp := hA.b.lt
  obtain ⟨M, hM⟩ : ∃ M, M = mayV r k := ⟨_, rfl⟩
  obtain ⟨D, hD⟩ : ∃ D, D = decide (cmpV r k s.v.pr s.v.pn < 0) := ⟨_, rfl⟩
  obtain ⟨f1, hf1⟩ : ∃ f, firstV 0 (!M) 1 = f := ⟨_, rfl⟩
  obtain ⟨f3, hf3⟩ : ∃ f, firstV (firstV f1 (decide (ep ≤ s.ke)) 7) (decide (ep ≠ s.ke + 1)) 4 = f := ⟨_, rfl⟩
  have hf4 : firstV f3 D 7 = err := by rw [← hf3, ← hf1, hM, hD, ← herr]; exact prep_first s ep r k
  have HF : Hid (∀ W, W.heap.size = g → Calls Try.prog 39 #[] W fun e w' => e = .returned (.func (.func 48) #[] #[.pointer (some ⟨g, 0, none⟩)]) ∧ w' = W.alloc (.cells #[.int .i64 0] 3)) := fun W h => by rw [← h]; exact afirst_any W
  have HM : Hid (∀ u, Calls Try.prog 27 #[.agg #[.int .i64 r, .int .i64 k]] u fun e w' => e = .returned (.bool M) ∧ Below u.heap.size u w') := fun u => vmay_r r k u hM.symm
  have HT1 : Hid (∀ u, NumB u g 0 → Calls Try.prog 48 #[.bool (!M), .int .i64 1, .pointer (some ⟨g, 0, none⟩)] u fun x w' => x = .returned (.int .i64 f1) ∧ NumB w' g f1 ∧ Only (· = g) u w') := fun u hu => atold_r (!M) 1 g 0 u hu hf1
  have HT3 : Hid (∀ u, AccB 76 u p kv cv s → NumB u g f1 → Calls Try.prog 40 #[.pointer (some ⟨p, 0, none⟩), .func (.func 48) #[] #[.pointer (some ⟨g, 0, none⟩)], .int .i64 ep] u fun x w' => x = .returned (.tuple #[]) ∧ NumB w' g f3 ∧ Only (· = g) u w') := fun u ha hu => atell_r ha hw ep g f1 hu (by omega) hf3
  have HC : Hid (∀ u, AccB 76 u p kv cv s → Calls Try.prog 41 #[.pointer (some ⟨p, 0, none⟩), .agg #[.int .i64 r, .int .i64 k]] u fun e w' => e = .returned (.bool D) ∧ Below u.heap.size u w') := fun u ha => amore_r ha r k hD.symm
  have HT4 : Hid (∀ u, NumB u g f3 → Calls Try.prog 48 #[.bool D, .int .i64 7, .pointer (some ⟨g, 0, none⟩)] u fun x w' => x = .returned (.int .i64 err) ∧ NumB w' g err ∧ Only (· = g) u w') := fun u hu => atold_r D 7 g f3 u hu hf4
  have HA := Lib.hid hA
  have HG := Lib.hid hg
  have P0 : Hid (PrepT w g r k 0 (((w.alloc (.cells #[.int .i64 r, .int .i64 k] 23)).alloc (.cells #[.int .i64 0, .int .i64 0, .int .i64 0, .int .i64 0, .bool false, .int .i64 0, .slice none 0 0] 40)).alloc (.cells #[.int .i64 0] 3))) := by
    have b1 : Below (w.heap.size + 1) (w.alloc (.cells #[.int .i64 r, .int .i64 k] 23)) (((w.alloc (.cells #[.int .i64 r, .int .i64 k] 23)).alloc (.cells #[.int .i64 0, .int .i64 0, .int .i64 0, .int .i64 0, .bool false, .int .i64 0, .slice none 0 0] 40)).alloc (.cells #[.int .i64 0] 3)) := ((Below.refl _ _).alloc (by simp) _).alloc (by simp) _
    refine ⟨(BalB.fresh w r k).keep b1 (by omega), ?_, ?_, ((Below.refl _ w).alloc (Nat.le_refl _) _).trans (b1.mono (by omega))⟩
    · have h := VotB.fresh (w.alloc (.cells #[.int .i64 r, .int .i64 k] 23)) VoteV.zero (.slice none 0 0)
      rw [World.size_alloc] at h
      exact h.keep ((Below.refl _ _).alloc (Nat.le_refl _) _) (by simp [VoteV.zero])
    · have h := NumB.fresh ((w.alloc (.cells #[.int .i64 r, .int .i64 k] 23)).alloc (.cells #[.int .i64 0, .int .i64 0, .int .i64 0, .int .i64 0, .bool false, .int .i64 0, .slice none 0 0] 40)) 0
      rw [World.size_alloc, World.size_alloc] at h
      rw [hg]
      exact h
  obtain ⟨c0, c1, _, _⟩ := P0.out.q.cells
  clear hM hD hf1 hf3 hf4 hA hg hw
  go_enter Try.func25, Try.ntmps25
  go_wp2_with fail
  refine (HF.out _ ?hsz).mono ?_
  case hsz => have := HG.out; simp; omega
  rintro e w1 ⟨rfl, rfl⟩
  go_wp2_with fail
  refine (HM.out _).mono ?_
  rintro e w2 ⟨rfl, B2⟩
  have P2 := Lib.hid (P0.out.on B2)
  clear B2 c0 c1 P0
  go_wp2_with fail
  refine (HT1.out _ P2.out.g).mono ?_
  rintro e w3 ⟨rfl, N3, O3⟩
  have P3 := Lib.hid (P2.out.told N3 O3 HG.out)
  clear N3 O3 P2
  go_wp2_with fail
  refine (HT3.out _ (P3.out.acc HA.out).b P3.out.g).mono ?_
  rintro e w4 ⟨rfl, N4, O4⟩
  have P4 := Lib.hid (P3.out.told N4 O4 HG.out)
  obtain ⟨c0, c1, _, _⟩ := P4.out.q.cells
  clear N4 O4 P3
  go_wp2_with fail
  refine (HC.out _ (P4.out.acc HA.out).b).mono ?_
  rintro e w5 ⟨rfl, B5⟩
  have P5 := Lib.hid (P4.out.on B5)
  clear B5 P4 c0 c1
  go_wp2_with fail
  refine (HT4.out _ P5.out.g).mono ?_
  rintro e w6 ⟨rfl, N6, O6⟩
  have P6 := Lib.hid (P5.out.told N6 O6 HG.out)
  clear N6 O6 P5
  obtain ⟨j0, j1, j2, j3, j4, j5, j6⟩ := P6.out.r.cells
  have f0 := P6.out.r.free 0
  have f1' := P6.out.r.free 1
  have f2 := P6.out.r.free 2
  have f3' := P6.out.r.free 3
  have f4 := P6.out.r.free 4
  have f5 := P6.out.r.free 5
  have f6 := P6.out.r.free 6
  by_cases h0 : err = 0
  · subst h0
    have hE : prepE s ep r k = 0 := herr
    have hS : s' = ⟨s.n, s.ke, s.K, ⟨r, k, s.v.ar, s.v.an, s.v.has, s.v.ce, s.v.C⟩⟩ := by rw [← hs, prepS, if_pos hE]
    have hVs : V = s'.v := by rw [← hv, prepV, if_pos hE, hs]
    have hVC : V = ⟨r, k, s.v.ar, s.v.an, s.v.has, s.v.ce, s.v.C⟩ := by rw [hVs, hS]
    subst hVC
    subst hS
    have A6 := P6.out.acc HA.out
    obtain ⟨k1, k2⟩ := A6.b.promised r k
    have a7 : AccR 76 ((w6.setCell ⟨p, 3, none⟩ (.int .i64 r)).setCell ⟨p, 4, none⟩ (.int .i64 k)) p kv cv ⟨s.n, s.ke, s.K, ⟨r, k, s.v.ar, s.v.an, s.v.has, s.v.ce, s.v.C⟩⟩ := ⟨k1, A6.k.beside A6.b (by decide) k2, A6.c.beside A6.b (by decide) k2⟩
    have HV := Lib.hid (avote_r a7 hl)
    have R7 := Lib.hid (P6.out.r.beside A6.b (by decide) k2)
    have A7 := Lib.hid a7
    have K2 := Lib.hid k2
    obtain ⟨c0, c1, _, _⟩ := P6.out.q.cells
    obtain ⟨_, _, _, y3, y4, _⟩ := A6.b.cells
    have z3 := A6.b.free 3
    have z4 := A6.b.free 4
    clear j0 j1 j2 j3 j4 j5 j6 f0 f1' f2 f3' f4 f5 f6 a7 k1 k2 A6 hVs hE hs hv herr HF HM HT1 HT3 HT4 HC
    go_wp2_with fail
    refine HV.out.mono ?_
    rintro e w8 ⟨a, c, rfl, H8⟩
    have R8 := Lib.hid (R7.out.keep H8.out.2 R7.out.lt)
    obtain ⟨j0, j1, j2, j3, j4, j5, j6⟩ := R8.out.cells
    have f0 := R8.out.free 0
    have f1' := R8.out.free 1
    have f2 := R8.out.free 2
    have f3' := R8.out.free 3
    have f4 := R8.out.free 4
    have f5 := R8.out.free 5
    have f6 := R8.out.free 6
    clear c0 c1 y3 y4 z3 z4
    go_wp2
    obtain ⟨m1, m2⟩ := R8.out.stored (v' := ⟨r, k, s.v.ar, s.v.an, s.v.has, s.v.ce, s.v.C⟩) (cv' := .slice a s.v.C.length c)
    obtain ⟨e0, e1, e2, e3, e4, e5, e6⟩ := m1.cells
    unfold voteW at e0 e1 e2 e3 e4 e5 e6
    dsimp only at e0 e1 e2 e3 e4 e5 e6
    refine bodyPost_ret (v := .tuple #[.agg #[.int .i64 r, .int .i64 k, .int .i64 s.v.ar, .int .i64 s.v.an, .bool s.v.has, .int .i64 s.v.ce, .slice a s.v.C.length c], .int .i64 0]) (by simp [results, Try.results25, go_sem, e0, e1, e2, e3, e4, e5, e6]) rfl ⟨a, c, rfl, H8.out.1.beside R8.out (by decide) m2, ?_, ?_⟩
    · exact Acc.beside ⟨kv, cv, A7.out.on H8.out.2⟩ R8.out (by decide) (by have := HA.out.b.lt; omega) m2
    · exact (((Only.of P6.out.bel).then K2.out (fun x _ hx => hx)).trans (.of H8.out.2)).then m2 (fun x hx e => by omega)
  · have hE : ¬ prepE s ep r k = 0 := by rw [herr]; exact h0
    have hS : s' = s := by rw [← hs, prepS, if_neg hE]
    have hVC : V = VoteV.zero := by rw [← hv, prepV, if_neg hE]
    subst hVC
    subst hS
    have hb : (err != 0) = true := by simp [h0]
    clear hE h0 hs hv herr HF HM HT1 HT3 HT4 HC
    go_wp2
    obtain ⟨m1, m2⟩ := P6.out.r.stored (v' := VoteV.zero) (cv' := .slice none 0 0)
    obtain ⟨e0, e1, e2, e3, e4, e5, e6⟩ := m1.cells
    unfold voteW at e0 e1 e2 e3 e4 e5 e6
    dsimp only [VoteV.zero] at e0 e1 e2 e3 e4 e5 e6
    refine bodyPost_ret (v := .tuple #[.agg #[.int .i64 0, .int .i64 0, .int .i64 0, .int .i64 0, .bool false, .int .i64 0, .slice none 0 0], .int .i64 err]) (by simp [results, Try.results25, go_sem, e0, e1, e2, e3, e4, e5, e6]) rfl ⟨none, 0, rfl, RowI.none _, ?_, ?_⟩
    · exact Acc.beside ⟨kv, cv, P6.out.acc HA.out⟩ P6.out.r (by decide) (by have := HA.out.b.lt; omega) m2
    · exact (Only.of P6.out.bel).then m2 (fun x hx e => by omega)
end Go.Proofs.Ytiidmiioegdfaaa
