/-
  LISTS OF BYTES AND LISTS OF TEXTS IN MEMORY; texts; the law's told. Of lists of at most a million.
-/
import Derived.Lib.SlBytesConst
import Derived.Test.YtpmigpgkicacpaaWalG
namespace Go.Proofs.Ytpmigpgkicacpaa
open Go.RowKit

/-- The slice value v holds slices of bytes, of which each holds one of L; all below block B. -/
def BytsAt (w : World) (B : Nat) (v : Value) (L : List (List UInt8)) : Prop :=
  ∃ ao cap, v = .slice ao L.length cap ∧ L.length ≤ cap ∧ cap ≤ maxLen ∧ (L ≠ [] → ∃ b off, ao = some ⟨b, off, none⟩ ∧ b < B ∧ ∀ i, i < L.length → ∃ u, w.cell? ⟨b, off + i, none⟩ = some u ∧ Byt w B u (L.getD i []))
/-- The slice value v holds the texts L. -/
def StrsAt (w : World) (B : Nat) (v : Value) (L : List (List UInt8)) : Prop :=
  ∃ ao cap, v = .slice ao L.length cap ∧ L.length ≤ cap ∧ cap ≤ maxLen ∧ (L ≠ [] → ∃ b off, ao = some ⟨b, off, none⟩ ∧ b < B ∧ ∀ i, i < L.length → w.cell? ⟨b, off + i, none⟩ = some (.string ⟨(L.getD i []).toArray⟩))

theorem BytsAt.keep {w w' : World} {B : Nat} {v : Value} {L : List (List UInt8)} (h : BytsAt w B v L) (hb : Below B w w') : BytsAt w' B v L := by
  obtain ⟨ao, cap, rfl, h1, h2, h3⟩ := h
  refine ⟨ao, cap, rfl, h1, h2, fun hl => ?_⟩
  obtain ⟨b, off, rfl, hbB, hc⟩ := h3 hl
  refine ⟨b, off, rfl, hbB, fun i hi => ?_⟩
  obtain ⟨u, hu, hy⟩ := hc i hi
  exact ⟨u, (hb.cell (p := ⟨b, off + i, none⟩) hbB).trans hu, hy.keep hb⟩
theorem StrsAt.keep {w w' : World} {B : Nat} {v : Value} {L : List (List UInt8)} (h : StrsAt w B v L) (hb : Below B w w') : StrsAt w' B v L := by
  obtain ⟨ao, cap, rfl, h1, h2, h3⟩ := h
  refine ⟨ao, cap, rfl, h1, h2, fun hl => ?_⟩
  obtain ⟨b, off, rfl, hbB, hc⟩ := h3 hl
  exact ⟨b, off, rfl, hbB, fun i hi => (hb.cell (p := ⟨b, off + i, none⟩) hbB).trans (hc i hi)⟩
theorem BytsAt.mono {w : World} {B B' : Nat} {v : Value} {L : List (List UInt8)} (h : BytsAt w B v L) (hb : B ≤ B') : BytsAt w B' v L := by
  obtain ⟨ao, cap, rfl, h1, h2, h3⟩ := h
  refine ⟨ao, cap, rfl, h1, h2, fun hl => ?_⟩
  obtain ⟨b, off, rfl, hbB, hc⟩ := h3 hl
  exact ⟨b, off, rfl, by omega, fun i hi => (hc i hi).imp fun u ⟨hu, hy⟩ => ⟨hu, hy.mono hb⟩⟩
theorem StrsAt.mono {w : World} {B B' : Nat} {v : Value} {L : List (List UInt8)} (h : StrsAt w B v L) (hb : B ≤ B') : StrsAt w B' v L := by
  obtain ⟨ao, cap, rfl, h1, h2, h3⟩ := h
  refine ⟨ao, cap, rfl, h1, h2, fun hl => ?_⟩
  obtain ⟨b, off, rfl, hbB, hc⟩ := h3 hl
  exact ⟨b, off, rfl, by omega, hc⟩
theorem Recs.at {w : World} {n : Nat} {v : Value} {L : List (List UInt8)} (h : Recs w n v L) : BytsAt w w.heap.size v L := by
  obtain ⟨vals, h1, h2⟩ := h
  rcases h1.2 with ⟨rfl, h0⟩ | ⟨g, cap, cur, rfl, hg, hh, hnc, hcm, hcs, htake⟩
  · have : L = [] := List.eq_nil_of_length_eq_zero h0
    subst this
    exact ⟨_, _, rfl, Nat.le_refl _, Nat.zero_le _, fun h => absurd rfl h⟩
  · refine ⟨_, _, rfl, hnc, hcm, fun _ => ⟨g, 0, rfl, lt_of_block hh, fun i hi => ?_⟩⟩
    obtain ⟨u, hu, hr⟩ := h2 i hi
    have := h1.cells (g := g) rfl i u hu
    rw [Addr.add_lit] at this
    exact ⟨u, this, byt_own hr (Nat.le_refl _)⟩
theorem strs_own {w : World} {n k : Nat} {v : Value} {L : List (List UInt8)} (h : w.ownsRow n 9 1 v k (strCells L)) : StrsAt w w.heap.size v L := by
  have hk : k = L.length := by have := h.1; simp [strCells] at this; omega
  subst hk
  rcases h.2 with ⟨rfl, h0⟩ | ⟨g, cap, cur, rfl, hg, hh, hnc, hcm, hcs, htake⟩
  · have : L = [] := List.eq_nil_of_length_eq_zero h0
    subst this
    exact ⟨_, _, rfl, Nat.le_refl _, Nat.zero_le _, fun h => absurd rfl h⟩
  · refine ⟨_, _, rfl, hnc, hcm, fun _ => ⟨g, 0, rfl, lt_of_block hh, fun i hi => ?_⟩⟩
    have := h.cells (g := g) rfl i (.string ⟨(L.getD i []).toArray⟩) (by simp [strCells, hi])
    rw [Addr.add_lit] at this
    exact this

theorem run_to (t : TypeId) (ht : Try.prog.underlying t = some (.slice (Try.prog.elem t))) (hs : ∀ u, (sizeOf (Try.prog.elem t)).run Try.prog u = .ok 1 u) (a : Option Addr) (n cap j : Nat) (y : Int) (hy : y = j) (hj : j ≤ cap) (u : World) :
    (Instr.sliceAt t (.slice a n cap) none (some (.int .i64 y)) none).run Try.prog u = .ok (.slice a j cap) u ∧ (Instr.slice t (.slice a n cap) none (some (.int .i64 y)) none).run Try.prog u = .ok (.slice a j cap) u := by
  subst hy
  have hrun : (Instr.slice t (.slice a n cap) none (some (.int .i64 (j : Int))) none).run Try.prog u = .ok (.slice a j cap) u := by
    rw [run_slice_h u t a n cap ht .i64 j (by omega) (by omega), hs]
    simp [Result.andThen, sliced]
    intro _
    cases a with
    | none => rfl
    | some a => obtain ⟨b, off, sp⟩ := a; cases sp <;> rfl
  exact ⟨(run_sliceAt_slice u t _ _ _ _ ht).trans hrun, hrun⟩
theorem BytsAt.to {w : World} {B : Nat} {a : Option Addr} {n c : Nat} {L : List (List UInt8)} (h : BytsAt w B (.slice a n c) L) (j : Nat) (hj : j ≤ L.length) : BytsAt w B (.slice a j c) (L.take j) := by
  obtain ⟨ao, cap, he, h1, h2, h3⟩ := h
  simp only [Value.slice.injEq] at he
  obtain ⟨rfl, rfl, rfl⟩ := he
  have hl : (L.take j).length = j := by rw [List.length_take]; omega
  refine ⟨a, c, by rw [hl], by omega, h2, fun hne => ?_⟩
  obtain ⟨b, off, rfl, hb, hc⟩ := h3 (fun e => by subst e; simp at hne)
  refine ⟨b, off, rfl, hb, fun i hi => ?_⟩
  rw [hl] at hi
  have e : (L.take j).getD i [] = L.getD i [] := by simp [List.getD, hi]
  rw [e]
  exact hc i (by omega)
theorem StrsAt.to {w : World} {B : Nat} {a : Option Addr} {n c : Nat} {L : List (List UInt8)} (h : StrsAt w B (.slice a n c) L) (j : Nat) (hj : j ≤ L.length) : StrsAt w B (.slice a j c) (L.take j) := by
  obtain ⟨ao, cap, he, h1, h2, h3⟩ := h
  simp only [Value.slice.injEq] at he
  obtain ⟨rfl, rfl, rfl⟩ := he
  have hl : (L.take j).length = j := by rw [List.length_take]; omega
  refine ⟨a, c, by rw [hl], by omega, h2, fun hne => ?_⟩
  obtain ⟨b, off, rfl, hb, hc⟩ := h3 (fun e => by subst e; simp at hne)
  refine ⟨b, off, rfl, hb, fun i hi => ?_⟩
  rw [hl] at hi
  have e : (L.take j).getD i [] = L.getD i [] := by simp [List.getD, hi]
  rw [e]
  exact hc i (by omega)

set_option maxHeartbeats 2000000 in
theorem texts_yes (v u : Value) (B : Nat) (L : List (List UInt8)) (w : World) (hv : BytsAt w B v L) (hu : StrsAt w B u L) (hlim : L.length ≤ 1000000) :
    Calls Try.prog 13 #[v, u] w fun e w' => e = .returned (.bool true) ∧ ∃ n, w' = w.drewN n := by
  obtain ⟨a1, c1, rfl, _, _, h1⟩ := hv
  obtain ⟨a2, c2, rfl, _, _, h2⟩ := hu
  have HR : Hid (∀ k, k < L.length → ∃ b off b2 off2 x, a1 = some ⟨b, off, none⟩ ∧ a2 = some ⟨b2, off2, none⟩ ∧ w.cell? ⟨b, off + k, none⟩ = some x ∧ (∃ a n c, x = .slice a n c) ∧ (∀ q, (convert 22 9 x).run Try.prog (w.drewN q) = .ok (.string ⟨(L.getD k []).toArray⟩) (w.drewN q)) ∧ w.cell? ⟨b2, off2 + k, none⟩ = some (.string ⟨(L.getD k []).toArray⟩)) := fun k hk => by
    have hne : L ≠ [] := fun e => by subst e; simp at hk
    obtain ⟨b, off, e1, _, hc1⟩ := h1 hne
    obtain ⟨b2, off2, e2, _, hc2⟩ := h2 hne
    obtain ⟨x, hx, hy⟩ := hc1 k hk
    exact ⟨b, off, b2, off2, x, e1, e2, hx, by obtain ⟨a, c, he, _⟩ := hy; exact ⟨_, _, _, he⟩, fun q => run_conv_byt (hy.keep (⟨rfl, rfl, rfl, Nat.le_refl _, fun _ _ => rfl⟩ : Below B w (w.drewN q))), hc2 k hk⟩
  obtain ⟨n, hn⟩ : ∃ n, n = L.length := ⟨_, rfl⟩
  rw [← hn] at hlim HR ⊢
  clear h1 h2 hn
  go_enter Try.func13, Try.ntmps13
  go_wp2
  go_loopw [5] (fun vi wr => ∃ k q : Nat, k ≤ n ∧ vi = .int .i64 k ∧ wr = w.drewN q) (fun vi _ => n - (intOf vi).toNat)
  case atStart => exact ⟨0, 0, by omega, rfl, rfl⟩
  case round =>
    obtain ⟨k, q, hk, rfl, rfl⟩ := hrel
    by_cases hlt : k < n
    · obtain ⟨b, off, b2, off2, x, rfl, rfl, hx, ⟨xa, xn, xc, rfl⟩, hcv, hy⟩ := HR.out k hlt
      have hcv' : ∀ p, (convert 22 9 (.slice xa xn xc)).run Try.prog ((w.drewN q).drewN p) = .ok (.string ⟨(L.getD k []).toArray⟩) ((w.drewN q).drewN p) := fun p => by rw [World.drewN_drewN]; exact hcv _
      have hx' : (w.drewN q).cell? ⟨b, off + k, none⟩ = some (.slice xa xn xc) := hx
      have hy' : (w.drewN q).cell? ⟨b2, off2 + k, none⟩ = some (.string ⟨(L.getD k []).toArray⟩) := hy
      generalize (L.getD k []).toArray = z at hcv' hy'
      clear hcv hx hy
      generalize hw : w.drewN q = W at *
      have HW := Lib.hid hw
      clear hw
      go_wp2_with fail
      go_quiet (fail)
      clear hcv' hx' hy'
      go_wp2
      go_roundw
      case rel => exact ⟨k + 1, q + nq, by omega, by go_num, by rw [← HW.out, World.drewN_drewN]⟩
      case measure => simp [intOf]; omega
    · obtain rfl : k = n := by omega
      go_wp2
      go_returns
      exact ⟨rfl, q, rfl⟩

/-- One record alone. -/
theorem Recs.one {w : World} {n : Nat} {v : Value} {r : List UInt8} (h : Recs w n v [r]) : ∃ g c u, v = .slice (some ⟨g, 0, none⟩) 1 c ∧ w.cell? ⟨g, 0, none⟩ = some u ∧ (∃ a n c, u = .slice a n c) ∧ (convert 22 9 u).run Try.prog w = .ok (.string ⟨r.toArray⟩) w := by
  obtain ⟨ao, cap, rfl, h1, h2, h3⟩ := h.at
  obtain ⟨vals, ho, _⟩ := h
  rcases ho.2 with ⟨_, h0⟩ | ⟨g, cap', cur, he, _⟩
  · simp at h0
  · simp only [Value.slice.injEq] at he
    obtain ⟨rfl, _, rfl⟩ := he
    obtain ⟨b, off, he, _, hc⟩ := h3 (by simp)
    simp only [Option.some.injEq, Addr.mk.injEq, and_true] at he
    obtain ⟨rfl, rfl⟩ := he
    obtain ⟨u, hu, hy⟩ := hc 0 (by simp)
    exact ⟨_, _, u, rfl, hu, by obtain ⟨a, c, he, _⟩ := hy; exact ⟨_, _, _, he⟩, run_conv_byt hy⟩

theorem frame_byt (v : Value) (B : Nat) (l : List UInt8) (w : World) (hB : Byt w B v l) (hBw : B ≤ w.heap.size) (hl : okR l) (n : Nat) (hn : n = (frm l).length) :
    Calls Try.prog 9 #[v] w fun e w' => ∃ a c, e = .returned (.tuple #[.slice a n c, .int .i64 0]) ∧ Byt w' w'.heap.size (.slice a n c) (frm l) ∧ Below w.heap.size w w' := by
  subst hn
  refine (frame_yes v B l w hB hBw hl).mono ?_
  rintro e w' ⟨a, c, rfl, h1, h2⟩
  exact ⟨a, c, rfl, byt_own h1 (Nat.le_refl _), h2⟩

set_option maxRecDepth 100000 in
set_option maxHeartbeats 4000000 in
theorem told8_any (w : World) : Calls Try.prog 8 #[] w fun e w' => e = .returned (.bool true) ∧ Below w.heap.size w w' := by
  obtain ⟨i0, hi, hz0, hz1, hz2⟩ := info_parts info_u8
  have kc := fun (w : World) (C : Array Value) (n c : Nat) => Lib.run_convert_bytes_const (P := Try.prog) w 22 5 C n c Try.underlying22 Try.underlying5
  obtain ⟨F, hF⟩ : ∃ F, F = frm [97] := ⟨_, rfl⟩
  have hFl : F.length = 7 := by rw [hF, frm_length]; rfl
  have H1 : Hid (Calls Try.prog 9 #[.slice (some ⟨w.heap.size, 0, none⟩) 1 1] (w.alloc (.cells #[.int .u8 97] 5 (1, 2))) fun e w' => ∃ a c, e = .returned (.tuple #[.slice a 7 c, .int .i64 0]) ∧ Hid (Byt w' w'.heap.size (.slice a 7 c) F) ∧ Below w.heap.size w w') := by
    have hb := byt_lit w [97] 5 (1, 2) 1 rfl (by decide)
    refine (frame_byt _ _ [97] _ hb (by simp) ⟨by decide, by decide⟩ 7 (by rw [← hF, hFl])).mono ?_
    rintro e w' ⟨a, c, rfl, h1, h2⟩
    rw [← hF] at h1
    exact ⟨a, c, rfl, h1, ((Below.refl _ w).alloc (Nat.le_refl _) _).trans (h2.mono (by simp))⟩
  have HRd : Hid (∀ (u : World) (v : Value), Byt u u.heap.size v (F ++ [0, 1, 2]) → Calls Try.prog 11 #[v] u fun e w' => ∃ v', e = .returned (.tuple #[v', .int .i64 7]) ∧ Hid (Recs w' u.heap.size v' [[97]]) ∧ Below u.heap.size u w') := fun u v hv => by
    refine (wread_any v _ _ u hv (Nat.le_refl _) (by rw [List.length_append, hFl]; decide)).mono ?_
    rintro e w' ⟨L, m, hr, v', rfl, h1, h2⟩
    have hu := Rds.of (L := [[97]]) (rest := [0, 1, 2]) (by intro r hr; rw [List.mem_singleton.1 hr]; exact ⟨by decide, by decide⟩) (firstR_short (by decide))
    rw [frs_one, ← hF] at hu
    obtain ⟨rfl, rfl⟩ := hr.unique hu
    rw [hFl]
    exact ⟨v', rfl, h1, h2⟩
  have HFL := Lib.hid hFl
  clear hF hFl
  go_enter Try.func8, Try.ntmps8
  go_wp2_with fail
  refine H1.out.mono ?_
  rintro e w1 ⟨a, c, rfl, HY, hb⟩
  have B1 := Lib.hid hb
  clear hb kc
  go_wp2_with fail
  refine (frame_no none 0 0 _ (.inl (by decide))).mono ?_
  rintro e w1' ⟨rfl, rfl⟩
  have HS : Hid (Src Try.prog 1 22 (.slice a 7 c) 7 (Lib.byteCells F) (w1.alloc (.cells #[] 5))) := by
    have := src_bytes (HY.out.keep ((Below.refl _ _).alloc (Nat.le_refl _) (.cells #[] 5)))
    rwa [HFL.out] at this
  have hs1 := B1.out.size
  go_wp2_with (at_builtin; refine wpList_append_own_src rfl (.tmp 18) (.tmp 19) 22 22 rfl w.heap.size 5 i0 (.int .u8 0) 1 1 Try.underlying22 hi hz0 hz1 hz2 rfl _ _ _ rfl (World.ownsRow_made w1 #[] 0 hs1 (Nat.zero_le _) rfl) _ 7 (Lib.byteCells F) rfl HS.out ?c3 ?c4 ?c5 ?_)
  case c3 => unfold maxLen; omega
  case c4 => omega
  case c5 => simp; omega
  intro v2 w2 hown hgrow
  have H2 : Hid (w2.ownsRow w.heap.size 5 1 v2 7 (Lib.byteCells F)) := hown
  have B2 : Hid (Below w.heap.size w w2) := (B1.out.alloc hs1 _).grown hgrow (by simp; omega) (by intro k hk; simp [Value.ownBlock] at hk; omega)
  have hs2 := B2.out.size
  obtain ⟨a2, c2, rfl⟩ := own_shape H2.out
  clear hown hgrow
  have HS2 : Hid (Src Try.prog 1 22 (.slice (some ⟨w2.heap.size, 0, none⟩) 3 3) 3 (Lib.byteCells [0, 1, 2]) (w2.alloc (.cells #[.int .u8 0, .int .u8 1, .int .u8 2] 5))) := src_bytes (byt_lit w2 [0, 1, 2] 5 (0, 0) 3 rfl (by decide))
  go_wp2_with (at_builtin; refine wpList_append_own_src rfl (.tmp 20) (.tmp 21) 22 22 rfl w.heap.size 5 i0 (.int .u8 0) 1 1 Try.underlying22 hi hz0 hz1 hz2 rfl _ _ _ rfl (H2.out.alloc _) _ 3 (Lib.byteCells [0, 1, 2]) rfl HS2.out ?c3 ?c4 ?c5 ?_)
  case c3 => unfold maxLen; omega
  case c4 => omega
  case c5 => simp; omega
  intro v3 w3 hown hgrow
  have HY3 : Hid (Byt w3 w3.heap.size v3 (F ++ [0, 1, 2])) := by
    have e : Lib.byteCells F ++ Lib.byteCells [0, 1, 2] = Lib.byteCells (F ++ [0, 1, 2]) := (List.map_append ..).symm
    rw [e] at hown
    exact byt_own hown (Nat.le_refl _)
  have B3 : Hid (Below w.heap.size w w3) := (B2.out.alloc hs2 _).grown hgrow (by simp; omega) (fun k hk => (H2.out.lt k hk).1)
  obtain ⟨a3, c3, rfl⟩ := own_shape hown
  clear hown hgrow
  go_wp2_with fail
  refine (HRd.out _ _ HY3.out).mono ?_
  rintro e w4 ⟨v4, rfl, HR, hb4⟩
  have B4 := Lib.hid (B3.out.trans (hb4.mono B3.out.size))
  obtain ⟨g, c4, u, rfl, hu, ⟨ua, un, uc, rfl⟩, hcv⟩ := Recs.one HR.out
  clear hb4
  go_wp2
  go_returns
  exact ⟨rfl, B4.out⟩
end Go.Proofs.Ytpmigpgkicacpaa
