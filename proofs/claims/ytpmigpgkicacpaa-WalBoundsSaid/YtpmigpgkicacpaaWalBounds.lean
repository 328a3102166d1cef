/-
  PROVED: casebooklaw8.WalBounds answers true and leaves its argument as it was, for any number: the row's own reading and nothing else is assumed.
-/
import Derived.Test.YtpmigpgkicacpaaWalT
import Derived.Test.YtpmigpgkicacpaaPackArgs
namespace Go.Proofs.Ytpmigpgkicacpaa.WalBounds
open Go.ChangeShapes Go.WideShapes Go.ChangeAt Go.RowKit

def ks : List Nat := [0, 1, 2, 255, 256, 257, 4095, 4096, 4097, 5000]
theorem ks_le (j : Nat) (h : j < 10) : ks.getD j 0 ≤ 5000 := by
  match j, h with
  | 0, _ => decide
  | 1, _ => decide
  | 2, _ => decide
  | 3, _ => decide
  | 4, _ => decide
  | 5, _ => decide
  | 6, _ => decide
  | 7, _ => decide
  | 8, _ => decide
  | 9, _ => decide
theorem ks_cell (w : World) (j : Nat) (h : j < 10) : (w.alloc (.cells #[.int .i64 0, .int .i64 1, .int .i64 2, .int .i64 255, .int .i64 256, .int .i64 257, .int .i64 4095, .int .i64 4096, .int .i64 4097, .int .i64 5000] 3)).cell? ⟨w.heap.size, j, none⟩ = some (.int .i64 ((ks.getD j 0 : Nat) : Int)) := by
  rw [cell_of_row _ _ j _ _ _ (heap_alloc_new w _)]
  match j, h with
  | 0, _ => rfl
  | 1, _ => rfl
  | 2, _ => rfl
  | 3, _ => rfl
  | 4, _ => rfl
  | 5, _ => rfl
  | 6, _ => rfl
  | 7, _ => rfl
  | 8, _ => rfl
  | 9, _ => rfl
theorem made_zero (n : Nat) : madeCells #[Value.int .u8 0] n = (Lib.byteCells (List.replicate n 0)).toArray := by
  apply Array.ext
  · simp [madeCells, Lib.byteCells]
  · intro i h1 h2
    simp [madeCells, Lib.byteCells, Nat.mod_one]
theorem cells_set (l : List UInt8) (i : Nat) (y : UInt8) : (Lib.byteCells l).toArray.setIfInBounds i (.int .u8 y.toNat) = (Lib.byteCells (l.set i y)).toArray := by
  simp [Lib.byteCells, List.map_set]
/-- The first two bytes of a frame. -/
theorem two_cells {w : World} {n : Nat} {v : Value} {l : List UInt8} (h : w.ownsRow n 5 1 v (frm l).length (Lib.byteCells (frm l))) : ∃ g c, v = .slice (some ⟨g, 0, none⟩) (frm l).length c ∧ w.cell? ⟨g, 0, none⟩ = some (.int .u8 (UInt8.ofNat (l.length / 256)).toNat) ∧ w.cell? ⟨g, 1, none⟩ = some (.int .u8 (UInt8.ofNat l.length).toNat) := by
  have hl := frm_length l
  rcases h.2 with ⟨_, h0⟩ | ⟨g, cap, cur, rfl, _⟩
  · omega
  · have c := fun j (hj : j < (frm l).length) => h.cells (g := g) rfl j _ (byteCells_get _ j hj)
    have c0 := c 0 (by omega)
    have c1 := c 1 (by omega)
    rw [Addr.add_lit] at c0 c1
    have e0 : (frm l).getD 0 0 = UInt8.ofNat (l.length / 256) := by rw [frm, headOf_eq]; rfl
    have e1 : (frm l).getD 1 0 = UInt8.ofNat l.length := by rw [frm, headOf_eq]; rfl
    rw [e0] at c0
    rw [e1] at c1
    exact ⟨g, cap, rfl, c0, c1⟩

set_option maxRecDepth 100000 in
set_option maxHeartbeats 4000000 in
theorem walk (a0 : Int) (w : World) (_ : (Lit.int .i64 a0).wf = true) :
    Calls Try.prog 7 #[.int .i64 a0] w fun e w' => e = .returned (.bool true) ∧ Below w.heap.size w w' := by
  have HT := Lib.hid (fun u => told8_any u)
  obtain ⟨A, hA⟩ : ∃ A : Nat, IntKind.u64.wrap a0 = (A : Int) := ⟨(IntKind.u64.wrap a0).toNat, by rw [IntKind.wrap_u64]; omega⟩
  have hk : (A : Int) % 10 = ((A % 10 : Nat) : Int) := by omega
  have hj : A % 10 < 10 := by omega
  generalize A % 10 = j at hk hj
  have hcell := ks_cell w j hj
  have hle := ks_le j hj
  generalize ks.getD j 0 = K at hcell hle
  have hmk := fun u : World => run_make_row' (P := Try.prog) 22 5 (.int .u8 0) 1 Try.underlying22 info_u8 rfl .i64 .i64 K (by omega) (by omega) u
  go_enter Try.func7, Try.ntmps7
  go_wp2
  go_loopw [5] (fun vi wr => ∃ (i : Nat) (l : List UInt8), i ≤ K ∧ vi = .int .i64 i ∧ l.length = K ∧ wr.heap[w.heap.size + 1]? = some (.cells (Lib.byteCells l).toArray 5 (0, 0)) ∧ Below w.heap.size w wr) (fun vi _ => K - (intOf vi).toNat)
  case atStart =>
    refine ⟨0, List.replicate K 0, by omega, rfl, by simp, ?_, ((Below.refl _ _).alloc (Nat.le_refl _) _).alloc (by simp) _⟩
    rw [made_zero]
    exact heap_alloc2_new w _ _
  case round =>
    obtain ⟨i, l, hi, rfl, hl, hrow, hnx⟩ := hrel
    have HL := Lib.hid hl
    have HR := Lib.hid hrow
    clear hcell hmk hk hA
    by_cases hlt : i < K
    · have hc := cell_of_row wr _ i _ _ _ hrow
      rw [List.getElem?_toArray, byteCells_get l i (by rw [hl]; exact hlt)] at hc
      have hf := frozen_of_row wr _ i _ _ hrow
      obtain ⟨y, hy⟩ : ∃ y : UInt8, (i : Int) % 256 = (y.toNat : Int) := ⟨UInt8.ofNat i, by rw [UInt8.toNat_ofNat']; omega⟩
      clear hl hrow
      go_wp2
      go_roundw
      case rel =>
        refine ⟨i + 1, l.set i y, by omega, by go_num, by rw [List.length_set]; exact HL.out, ?_, hnx.setCell (by simp) _⟩
        rw [heap_setCell_same _ _ _ _ _ _ HR.out, cells_set]
      case measure => simp [intOf]; omega
    · have hB : Byt wr wr.heap.size (.slice (some ⟨w.heap.size + 1, 0, none⟩) K K) l := by
        refine ⟨_, _, by rw [hl], by rw [hl]; exact Nat.le_refl _, by unfold maxLen; omega, fun e => by simp at e, fun hne => ⟨_, _, rfl, lt_of_block hrow, fun q hq => ?_⟩⟩
        rw [Nat.zero_add, cell_of_row wr _ q _ _ _ hrow, List.getElem?_toArray]
        exact byteCells_get l q hq
      have HB := Lib.hid hB
      have HNX := Lib.hid hnx
      have hs := hnx.size
      clear hl hrow hB hnx
      by_cases hok : K < 1 ∨ 4096 < K
      · have HNo := Lib.hid fun u => frame_no (some ⟨w.heap.size + 1, 0, none⟩) K K u hok
        rcases hok with hok | hok
        all_goals
          go_wp2_with fail
          refine (HNo.out _).mono ?_
          rintro e w1 ⟨rfl, rfl⟩
          go_wp2_with fail
          all_goals first
            | (exfalso; omega)
            | skip
          refine (HT.out _).mono ?_
          rintro e w2 ⟨rfl, hb⟩
          have B2 := Lib.hid (HNX.out.trans (hb.mono hs))
          clear hb
          go_wp2
          go_returns
          exact ⟨rfl, B2.out⟩
      · have hK1 : 1 ≤ K := by omega
        have hK2 : K ≤ 4096 := by omega
        have hd1 : decide ((K : Int) < 1) = false := decide_eq_false (by omega)
        have hd2 : decide (4096 < (K : Int)) = false := decide_eq_false (by omega)
        obtain ⟨N, hN⟩ : ∃ N, N = K + 6 := ⟨_, rfl⟩
        have hfl : (frm l).length = N := by rw [frm_length, HL.out]; omega
        have HYes : Hid (Calls Try.prog 9 #[.slice (some ⟨w.heap.size + 1, 0, none⟩) K K] wr fun e u' => ∃ g c, e = .returned (.tuple #[.slice (some ⟨g, 0, none⟩) N c, .int .i64 0]) ∧ Hid (Byt u' u'.heap.size (.slice (some ⟨g, 0, none⟩) N c) (frm l)) ∧ Hid (u'.cell? ⟨g, 0, none⟩ = some (.int .u8 ((K / 256 : Nat) : Int)) ∧ u'.cell? ⟨g, 1, none⟩ = some (.int .u8 ((K % 256 : Nat) : Int))) ∧ g < u'.heap.size ∧ Below wr.heap.size wr u') := by
          refine (frame_yes _ _ l wr HB.out (Nat.le_refl _) ⟨by rw [HL.out]; exact hK1, by rw [HL.out]; exact hK2⟩).mono ?_
          rintro e u' ⟨a, c, rfl, g1, g2⟩
          obtain ⟨g, c', he, q1, q2⟩ := two_cells g1
          simp only [Value.slice.injEq, true_and] at he
          obtain ⟨rfl, rfl⟩ := he
          have hY := byt_own g1 (Nat.le_refl _)
          rw [hfl] at hY
          rw [HL.out, UInt8.toNat_ofNat'] at q1 q2
          rw [hfl]
          refine ⟨g, c, rfl, hY, ⟨by rw [q1]; congr 3; omega, by rw [q2]⟩, World.block_lt_of_cell? _ _ q1, g2⟩
        have HRd : Hid (∀ (u : World) (v : Value), Byt u u.heap.size v (frm l) → Calls Try.prog 11 #[v] u fun e w' => ∃ g c x, e = .returned (.tuple #[.slice (some ⟨g, 0, none⟩) 1 c, .int .i64 N]) ∧ (∃ a n c, x = .slice a n c) ∧ w'.cell? ⟨g, 0, none⟩ = some x ∧ g < w'.heap.size ∧ Hid (Byt w' w'.heap.size x l) ∧ Below u.heap.size u w') := fun u v hv => by
          refine (wread_any v _ _ u hv (Nat.le_refl _) (by rw [hfl]; omega)).mono ?_
          rintro e w' ⟨L, m, hr, v', rfl, h1, h2⟩
          have hu := Rds.of (L := [l]) (rest := []) (by intro r hr; rw [List.mem_singleton.1 hr]; exact ⟨by rw [HL.out]; exact hK1, by rw [HL.out]; exact hK2⟩) rfl
          rw [frs_one, List.append_nil] at hu
          obtain ⟨rfl, rfl⟩ := hr.unique hu
          obtain ⟨g, c, x, rfl, hx, hxs, _⟩ := Recs.one h1
          have hat := h1.at
          obtain ⟨ao, cap, he, _, _, h3⟩ := hat
          obtain ⟨b, off, rfl, _, hcs⟩ := h3 (by simp)
          simp only [Value.slice.injEq, Option.some.injEq, Addr.mk.injEq, and_true] at he
          obtain ⟨⟨rfl, rfl⟩, _, _⟩ := he
          obtain ⟨x', hx', hy'⟩ := hcs 0 (by simp)
          rw [hx] at hx'
          obtain rfl := Option.some.inj hx'
          refine ⟨g, c, x, by rw [hfl], hxs, hx, World.block_lt_of_cell? _ _ hx, hy', h2⟩
        have HFr : Hid (∀ u, Calls Try.prog 10 #[.string ⟨l.toArray⟩] u fun e u' => e = .returned (.string ⟨(frm l).toArray⟩) ∧ Below u.heap.size u u') := fun u => refframe_any ⟨l.toArray⟩ u (by show l.toArray.size ≤ _; rw [List.size_toArray, HL.out]; omega)
        have HN := Lib.hid hN
        clear hfl hN
        go_wp2_with fail
        (with_reducible refine HYes.out.mono ?_)
        rintro e w1 ⟨g1, c1, rfl, Y1, C1, hg1, hb1⟩
        have B1 := Lib.hid hb1
        clear hb1
        go_wp2_with fail
        all_goals first
          | (exfalso; omega)
          | skip
        (with_reducible refine (HRd.out _ _ Y1.out).mono ?_)
        rintro e w2 ⟨g2, c2, x, rfl, ⟨xa, xn, xc, rfl⟩, hx2, hg2, Y2, hb2⟩
        have B2 := Lib.hid hb2
        have hs1 := B1.out.size
        have hs2 := B2.out.size
        have X2 := Lib.hid hx2
        clear hb2 hx2
        have FX : Hid (∀ u, Below w2.heap.size w2 u → u.cell? ⟨g1, 0, none⟩ = some (.int .u8 ((K / 256 : Nat) : Int)) ∧ u.cell? ⟨g1, 1, none⟩ = some (.int .u8 ((K % 256 : Nat) : Int)) ∧ (convert 22 9 (.slice (some ⟨g1, 0, none⟩) N c1)).run Try.prog u = .ok (.string ⟨(frm l).toArray⟩) u ∧ (convert 22 9 (.slice (some ⟨w.heap.size + 1, 0, none⟩) K K)).run Try.prog u = .ok (.string ⟨l.toArray⟩) u ∧ u.cell? ⟨g2, 0, none⟩ = some (.slice xa xn xc) ∧ (convert 22 9 (.slice xa xn xc)).run Try.prog u = .ok (.string ⟨l.toArray⟩) u) := fun u hu => by
          have b12 := B2.out.trans (hu.mono hs2)
          have b02 := B1.out.trans (b12.mono hs1)
          exact ⟨(b12.cell (p := ⟨g1, 0, none⟩) hg1).trans C1.out.1, (b12.cell (p := ⟨g1, 1, none⟩) hg1).trans C1.out.2, run_conv_byt (Y1.out.keep b12), run_conv_byt (HB.out.keep b02), (hu.cell (p := ⟨g2, 0, none⟩) hg2).trans X2.out, run_conv_byt (Y2.out.keep hu)⟩
        obtain ⟨X, hX⟩ : ∃ X : ByteArray, X = ⟨(frm l).toArray⟩ := ⟨_, rfl⟩
        obtain ⟨Z, hZ⟩ : ∃ Z : ByteArray, Z = ⟨l.toArray⟩ := ⟨_, rfl⟩
        rw [← hX, ← hZ] at FX HFr
        have hn0 : 0 < N := by have := HN.out; omega
        have hn1 : 1 < N := by have := HN.out; omega
        have hn2 : (1 : Int) < (N : Int) := by omega
        have s1 : IntKind.i64.wrap ((K : Int) + 6) = (N : Int) := by rw [IntWalk.i64_in _ (by omega)]; have := HN.out; omega
        have s4 : IntKind.i64.wrap (6 + (K : Int)) = (N : Int) := by rw [IntWalk.i64_in _ (by omega)]; have := HN.out; omega
        have s2 : IntKind.i64.wrap (((K / 256 : Nat) : Int) * 256) = ((K / 256 * 256 : Nat) : Int) := by rw [IntWalk.i64_in _ (by omega)]; omega
        have s3 : IntKind.i64.wrap (((K / 256 * 256 : Nat) : Int) + ((K % 256 : Nat) : Int)) = (K : Int) := by rw [IntWalk.i64_in _ (by omega)]; omega
        have hb1 : K / 256 < 256 := by omega
        have hb0 : K % 256 < 256 := by omega
        have s5 : IntKind.i64.wrap ((K / 256 : Nat) : Int) = ((K / 256 : Nat) : Int) := IntWalk.i64_in _ (by omega)
        have s6 : IntKind.i64.wrap ((K % 256 : Nat) : Int) = ((K % 256 : Nat) : Int) := IntWalk.i64_in _ (by omega)
        generalize K / 256 * 256 = K2 at s2 s3
        generalize K / 256 = K1 at FX s2 s5 hb1
        generalize K % 256 = K0 at FX s3 s6 hb0
        clear hX hZ hd1 hd2
        go_wp2_with fail
        refine wp_region_held_drew (S := fun u => Below w2.heap.size w2 u) (by kernel_rfl) (⟨rfl, rfl, rfl, Nat.le_refl _, fun _ _ => rfl⟩) (fun hHeld => ?_)
        refine held_call 0 55 rfl rfl (by kernel_rfl) (by rfl) (fun K hK => ?_)
        simp only [Go.wp_at_zero]
        go_simp
        go_at_call 8
        (with_reducible refine (HT.out _).mono ?_)
        rintro e u1 ⟨rfl, hb⟩
        have D1 : Below w2.heap.size w2 u1 := hHeld.trans (hb.mono hHeld.size)
        clear hb
        first | (with_reducible refine hK.out _ _ ?_ (fun hHeld => ?_)) | (go_wp2_with fail; refine hK.out _ _ ?_ (fun hHeld => ?_))
        · exact D1
        clear hK K
        try simp only [Act.put, List.setIfInBounds_toArray, List.set_cons_zero, List.set_cons_succ]
        first
          | (refine held_take 1 56 (v := ?_) rfl rfl (by kernel_rfl) (by kernel_rfl) (by kernel_rfl) (fun _ _ _ h => h) (by assumption) (by rfl) ?_ ?_; rotate_left; (focus (intro w hSw; (obtain ⟨z0, z1, z2, z3, z4, z5⟩ := FX.out _ hSw); go_simp <;> with_reducible rfl)))
          | refine held_pass 1 56 rfl rfl (by kernel_rfl) (by kernel_rfl) (by kernel_rfl) (fun _ _ _ h => h) (by assumption) (by rfl) ?_
        simp only [Act.put, List.setIfInBounds_toArray, List.set_cons_zero, List.set_cons_succ]
        first
          | (refine held_take 2 57 (v := ?_) rfl rfl (by kernel_rfl) (by kernel_rfl) (by kernel_rfl) (fun _ _ _ h => h) (by assumption) (by rfl) ?_ ?_; rotate_left; (focus (intro w hSw; (obtain ⟨z0, z1, z2, z3, z4, z5⟩ := FX.out _ hSw); go_simp <;> with_reducible rfl)))
          | refine held_pass 2 57 rfl rfl (by kernel_rfl) (by kernel_rfl) (by kernel_rfl) (fun _ _ _ h => h) (by assumption) (by rfl) ?_
        simp only [Act.put, List.setIfInBounds_toArray, List.set_cons_zero, List.set_cons_succ]
        first
          | (refine held_take 3 58 (v := ?_) rfl rfl (by kernel_rfl) (by kernel_rfl) (by kernel_rfl) (fun _ _ _ h => h) (by assumption) (by rfl) ?_ ?_; rotate_left; (focus (intro w hSw; (obtain ⟨z0, z1, z2, z3, z4, z5⟩ := FX.out _ hSw); go_simp <;> with_reducible rfl)))
          | refine held_pass 3 58 rfl rfl (by kernel_rfl) (by kernel_rfl) (by kernel_rfl) (fun _ _ _ h => h) (by assumption) (by rfl) ?_
        simp only [Act.put, List.setIfInBounds_toArray, List.set_cons_zero, List.set_cons_succ]
        first
          | (refine held_take 4 59 (v := ?_) rfl rfl (by kernel_rfl) (by kernel_rfl) (by kernel_rfl) (fun _ _ _ h => h) (by assumption) (by rfl) ?_ ?_; rotate_left; (focus (intro w hSw; (obtain ⟨z0, z1, z2, z3, z4, z5⟩ := FX.out _ hSw); go_simp <;> with_reducible rfl)))
          | refine held_pass 4 59 rfl rfl (by kernel_rfl) (by kernel_rfl) (by kernel_rfl) (fun _ _ _ h => h) (by assumption) (by rfl) ?_
        simp only [Act.put, List.setIfInBounds_toArray, List.set_cons_zero, List.set_cons_succ]
        first
          | (refine held_take 5 60 (v := ?_) rfl rfl (by kernel_rfl) (by kernel_rfl) (by kernel_rfl) (fun _ _ _ h => h) (by assumption) (by rfl) ?_ ?_; rotate_left; (focus (intro w hSw; (obtain ⟨z0, z1, z2, z3, z4, z5⟩ := FX.out _ hSw); go_simp <;> with_reducible rfl)))
          | refine held_pass 5 60 rfl rfl (by kernel_rfl) (by kernel_rfl) (by kernel_rfl) (fun _ _ _ h => h) (by assumption) (by rfl) ?_
        simp only [Act.put, List.setIfInBounds_toArray, List.set_cons_zero, List.set_cons_succ]
        first
          | (refine held_take 6 61 (v := ?_) rfl rfl (by kernel_rfl) (by kernel_rfl) (by kernel_rfl) (fun _ _ _ h => h) (by assumption) (by rfl) ?_ ?_; rotate_left; (focus (intro w hSw; (obtain ⟨z0, z1, z2, z3, z4, z5⟩ := FX.out _ hSw); go_simp <;> with_reducible rfl)))
          | refine held_pass 6 61 rfl rfl (by kernel_rfl) (by kernel_rfl) (by kernel_rfl) (fun _ _ _ h => h) (by assumption) (by rfl) ?_
        simp only [Act.put, List.setIfInBounds_toArray, List.set_cons_zero, List.set_cons_succ]
        first
          | (refine held_take 7 62 (v := ?_) rfl rfl (by kernel_rfl) (by kernel_rfl) (by kernel_rfl) (fun _ _ _ h => h) (by assumption) (by rfl) ?_ ?_; rotate_left; (focus (intro w hSw; (obtain ⟨z0, z1, z2, z3, z4, z5⟩ := FX.out _ hSw); go_simp <;> with_reducible rfl)))
          | refine held_pass 7 62 rfl rfl (by kernel_rfl) (by kernel_rfl) (by kernel_rfl) (fun _ _ _ h => h) (by assumption) (by rfl) ?_
        simp only [Act.put, List.setIfInBounds_toArray, List.set_cons_zero, List.set_cons_succ]
        first
          | (refine held_take 8 63 (v := ?_) rfl rfl (by kernel_rfl) (by kernel_rfl) (by kernel_rfl) (fun _ _ _ h => h) (by assumption) (by rfl) ?_ ?_; rotate_left; (focus (intro w hSw; (obtain ⟨z0, z1, z2, z3, z4, z5⟩ := FX.out _ hSw); go_simp <;> with_reducible rfl)))
          | refine held_pass 8 63 rfl rfl (by kernel_rfl) (by kernel_rfl) (by kernel_rfl) (fun _ _ _ h => h) (by assumption) (by rfl) ?_
        simp only [Act.put, List.setIfInBounds_toArray, List.set_cons_zero, List.set_cons_succ]
        first
          | (refine held_take 9 64 (v := ?_) rfl rfl (by kernel_rfl) (by kernel_rfl) (by kernel_rfl) (fun _ _ _ h => h) (by assumption) (by rfl) ?_ ?_; rotate_left; (focus (intro w hSw; (obtain ⟨z0, z1, z2, z3, z4, z5⟩ := FX.out _ hSw); go_simp <;> with_reducible rfl)))
          | refine held_pass 9 64 rfl rfl (by kernel_rfl) (by kernel_rfl) (by kernel_rfl) (fun _ _ _ h => h) (by assumption) (by rfl) ?_
        simp only [Act.put, List.setIfInBounds_toArray, List.set_cons_zero, List.set_cons_succ]
        first
          | (refine held_take 10 65 (v := ?_) rfl rfl (by kernel_rfl) (by kernel_rfl) (by kernel_rfl) (fun _ _ _ h => h) (by assumption) (by rfl) ?_ ?_; rotate_left; (focus (intro w hSw; (obtain ⟨z0, z1, z2, z3, z4, z5⟩ := FX.out _ hSw); go_simp <;> with_reducible rfl)))
          | refine held_pass 10 65 rfl rfl (by kernel_rfl) (by kernel_rfl) (by kernel_rfl) (fun _ _ _ h => h) (by assumption) (by rfl) ?_
        simp only [Act.put, List.setIfInBounds_toArray, List.set_cons_zero, List.set_cons_succ]
        first
          | (refine held_take 11 66 (v := ?_) rfl rfl (by kernel_rfl) (by kernel_rfl) (by kernel_rfl) (fun _ _ _ h => h) (by assumption) (by rfl) ?_ ?_; rotate_left; (focus (intro w hSw; (obtain ⟨z0, z1, z2, z3, z4, z5⟩ := FX.out _ hSw); go_simp <;> with_reducible rfl)))
          | refine held_pass 11 66 rfl rfl (by kernel_rfl) (by kernel_rfl) (by kernel_rfl) (fun _ _ _ h => h) (by assumption) (by rfl) ?_
        simp only [Act.put, List.setIfInBounds_toArray, List.set_cons_zero, List.set_cons_succ]
        first
          | (refine held_take 12 67 (v := ?_) rfl rfl (by kernel_rfl) (by kernel_rfl) (by kernel_rfl) (fun _ _ _ h => h) (by assumption) (by rfl) ?_ ?_; rotate_left; (focus (intro w hSw; (obtain ⟨z0, z1, z2, z3, z4, z5⟩ := FX.out _ hSw); go_simp <;> with_reducible rfl)))
          | refine held_pass 12 67 rfl rfl (by kernel_rfl) (by kernel_rfl) (by kernel_rfl) (fun _ _ _ h => h) (by assumption) (by rfl) ?_
        simp only [Act.put, List.setIfInBounds_toArray, List.set_cons_zero, List.set_cons_succ]
        first
          | (refine held_take 13 68 (v := ?_) rfl rfl (by kernel_rfl) (by kernel_rfl) (by kernel_rfl) (fun _ _ _ h => h) (by assumption) (by rfl) ?_ ?_; rotate_left; (focus (intro w hSw; (obtain ⟨z0, z1, z2, z3, z4, z5⟩ := FX.out _ hSw); go_simp <;> with_reducible rfl)))
          | refine held_pass 13 68 rfl rfl (by kernel_rfl) (by kernel_rfl) (by kernel_rfl) (fun _ _ _ h => h) (by assumption) (by rfl) ?_
        simp only [Act.put, List.setIfInBounds_toArray, List.set_cons_zero, List.set_cons_succ]
        first
          | (refine held_take 14 69 (v := ?_) rfl rfl (by kernel_rfl) (by kernel_rfl) (by kernel_rfl) (fun _ _ _ h => h) (by assumption) (by rfl) ?_ ?_; rotate_left; (focus (intro w hSw; (obtain ⟨z0, z1, z2, z3, z4, z5⟩ := FX.out _ hSw); go_simp <;> with_reducible rfl)))
          | refine held_pass 14 69 rfl rfl (by kernel_rfl) (by kernel_rfl) (by kernel_rfl) (fun _ _ _ h => h) (by assumption) (by rfl) ?_
        simp only [Act.put, List.setIfInBounds_toArray, List.set_cons_zero, List.set_cons_succ]
        first
          | (refine held_take 15 70 (v := ?_) rfl rfl (by kernel_rfl) (by kernel_rfl) (by kernel_rfl) (fun _ _ _ h => h) (by assumption) (by rfl) ?_ ?_; rotate_left; (focus (intro w hSw; (obtain ⟨z0, z1, z2, z3, z4, z5⟩ := FX.out _ hSw); go_simp <;> with_reducible rfl)))
          | refine held_pass 15 70 rfl rfl (by kernel_rfl) (by kernel_rfl) (by kernel_rfl) (fun _ _ _ h => h) (by assumption) (by rfl) ?_
        simp only [Act.put, List.setIfInBounds_toArray, List.set_cons_zero, List.set_cons_succ]
        first
          | (refine held_take 16 71 (v := ?_) rfl rfl (by kernel_rfl) (by kernel_rfl) (by kernel_rfl) (fun _ _ _ h => h) (by assumption) (by rfl) ?_ ?_; rotate_left; (focus (intro w hSw; (obtain ⟨z0, z1, z2, z3, z4, z5⟩ := FX.out _ hSw); go_simp <;> with_reducible rfl)))
          | refine held_pass 16 71 rfl rfl (by kernel_rfl) (by kernel_rfl) (by kernel_rfl) (fun _ _ _ h => h) (by assumption) (by rfl) ?_
        simp only [Act.put, List.setIfInBounds_toArray, List.set_cons_zero, List.set_cons_succ]
        first
          | (refine held_take 17 72 (v := ?_) rfl rfl (by kernel_rfl) (by kernel_rfl) (by kernel_rfl) (fun _ _ _ h => h) (by assumption) (by rfl) ?_ ?_; rotate_left; (focus (intro w hSw; (obtain ⟨z0, z1, z2, z3, z4, z5⟩ := FX.out _ hSw); go_simp <;> with_reducible rfl)))
          | refine held_pass 17 72 rfl rfl (by kernel_rfl) (by kernel_rfl) (by kernel_rfl) (fun _ _ _ h => h) (by assumption) (by rfl) ?_
        simp only [Act.put, List.setIfInBounds_toArray, List.set_cons_zero, List.set_cons_succ]
        first
          | (refine held_take 18 73 (v := ?_) rfl rfl (by kernel_rfl) (by kernel_rfl) (by kernel_rfl) (fun _ _ _ h => h) (by assumption) (by rfl) ?_ ?_; rotate_left; (focus (intro w hSw; (obtain ⟨z0, z1, z2, z3, z4, z5⟩ := FX.out _ hSw); go_simp <;> with_reducible rfl)))
          | refine held_pass 18 73 rfl rfl (by kernel_rfl) (by kernel_rfl) (by kernel_rfl) (fun _ _ _ h => h) (by assumption) (by rfl) ?_
        simp only [Act.put, List.setIfInBounds_toArray, List.set_cons_zero, List.set_cons_succ]
        first
          | (refine held_take 19 74 (v := ?_) rfl rfl (by kernel_rfl) (by kernel_rfl) (by kernel_rfl) (fun _ _ _ h => h) (by assumption) (by rfl) ?_ ?_; rotate_left; (focus (intro w hSw; (obtain ⟨z0, z1, z2, z3, z4, z5⟩ := FX.out _ hSw); go_simp <;> with_reducible rfl)))
          | refine held_pass 19 74 rfl rfl (by kernel_rfl) (by kernel_rfl) (by kernel_rfl) (fun _ _ _ h => h) (by assumption) (by rfl) ?_
        simp only [Act.put, List.setIfInBounds_toArray, List.set_cons_zero, List.set_cons_succ]
        first
          | (refine held_take 20 75 (v := ?_) rfl rfl (by kernel_rfl) (by kernel_rfl) (by kernel_rfl) (fun _ _ _ h => h) (by assumption) (by rfl) ?_ ?_; rotate_left; (focus (intro w hSw; (obtain ⟨z0, z1, z2, z3, z4, z5⟩ := FX.out _ hSw); go_simp <;> with_reducible rfl)))
          | refine held_pass 20 75 rfl rfl (by kernel_rfl) (by kernel_rfl) (by kernel_rfl) (fun _ _ _ h => h) (by assumption) (by rfl) ?_
        simp only [Act.put, List.setIfInBounds_toArray, List.set_cons_zero, List.set_cons_succ]
        first
          | (refine held_take 21 76 (v := ?_) rfl rfl (by kernel_rfl) (by kernel_rfl) (by kernel_rfl) (fun _ _ _ h => h) (by assumption) (by rfl) ?_ ?_; rotate_left; (focus (intro w hSw; (obtain ⟨z0, z1, z2, z3, z4, z5⟩ := FX.out _ hSw); go_simp <;> with_reducible rfl)))
          | refine held_pass 21 76 rfl rfl (by kernel_rfl) (by kernel_rfl) (by kernel_rfl) (fun _ _ _ h => h) (by assumption) (by rfl) ?_
        simp only [Act.put, List.setIfInBounds_toArray, List.set_cons_zero, List.set_cons_succ]
        first
          | (refine held_take 22 77 (v := ?_) rfl rfl (by kernel_rfl) (by kernel_rfl) (by kernel_rfl) (fun _ _ _ h => h) (by assumption) (by rfl) ?_ ?_; rotate_left; (focus (intro w hSw; (obtain ⟨z0, z1, z2, z3, z4, z5⟩ := FX.out _ hSw); go_simp <;> with_reducible rfl)))
          | refine held_pass 22 77 rfl rfl (by kernel_rfl) (by kernel_rfl) (by kernel_rfl) (fun _ _ _ h => h) (by assumption) (by rfl) ?_
        simp only [Act.put, List.setIfInBounds_toArray, List.set_cons_zero, List.set_cons_succ]
        first
          | (refine held_take 23 78 (v := ?_) rfl rfl (by kernel_rfl) (by kernel_rfl) (by kernel_rfl) (fun _ _ _ h => h) (by assumption) (by rfl) ?_ ?_; rotate_left; (focus (intro w hSw; (obtain ⟨z0, z1, z2, z3, z4, z5⟩ := FX.out _ hSw); go_simp <;> with_reducible rfl)))
          | refine held_pass 23 78 rfl rfl (by kernel_rfl) (by kernel_rfl) (by kernel_rfl) (fun _ _ _ h => h) (by assumption) (by rfl) ?_
        simp only [Act.put, List.setIfInBounds_toArray, List.set_cons_zero, List.set_cons_succ]
        first
          | (refine held_take 24 79 (v := ?_) rfl rfl (by kernel_rfl) (by kernel_rfl) (by kernel_rfl) (fun _ _ _ h => h) (by assumption) (by rfl) ?_ ?_; rotate_left; (focus (intro w hSw; (obtain ⟨z0, z1, z2, z3, z4, z5⟩ := FX.out _ hSw); go_simp <;> with_reducible rfl)))
          | refine held_pass 24 79 rfl rfl (by kernel_rfl) (by kernel_rfl) (by kernel_rfl) (fun _ _ _ h => h) (by assumption) (by rfl) ?_
        simp only [Act.put, List.setIfInBounds_toArray, List.set_cons_zero, List.set_cons_succ]
        first
          | (refine held_take 25 80 (v := ?_) rfl rfl (by kernel_rfl) (by kernel_rfl) (by kernel_rfl) (fun _ _ _ h => h) (by assumption) (by rfl) ?_ ?_; rotate_left; (focus (intro w hSw; (obtain ⟨z0, z1, z2, z3, z4, z5⟩ := FX.out _ hSw); go_simp <;> with_reducible rfl)))
          | refine held_pass 25 80 rfl rfl (by kernel_rfl) (by kernel_rfl) (by kernel_rfl) (fun _ _ _ h => h) (by assumption) (by rfl) ?_
        simp only [Act.put, List.setIfInBounds_toArray, List.set_cons_zero, List.set_cons_succ]
        first
          | (refine held_take 26 81 (v := ?_) rfl rfl (by kernel_rfl) (by kernel_rfl) (by kernel_rfl) (fun _ _ _ h => h) (by assumption) (by rfl) ?_ ?_; rotate_left; (focus (intro w hSw; (obtain ⟨z0, z1, z2, z3, z4, z5⟩ := FX.out _ hSw); go_simp <;> with_reducible rfl)))
          | refine held_pass 26 81 rfl rfl (by kernel_rfl) (by kernel_rfl) (by kernel_rfl) (fun _ _ _ h => h) (by assumption) (by rfl) ?_
        simp only [Act.put, List.setIfInBounds_toArray, List.set_cons_zero, List.set_cons_succ]
        first
          | (refine held_take 27 82 (v := ?_) rfl rfl (by kernel_rfl) (by kernel_rfl) (by kernel_rfl) (fun _ _ _ h => h) (by assumption) (by rfl) ?_ ?_; rotate_left; (focus (intro w hSw; (obtain ⟨z0, z1, z2, z3, z4, z5⟩ := FX.out _ hSw); go_simp <;> with_reducible rfl)))
          | refine held_pass 27 82 rfl rfl (by kernel_rfl) (by kernel_rfl) (by kernel_rfl) (fun _ _ _ h => h) (by assumption) (by rfl) ?_
        simp only [Act.put, List.setIfInBounds_toArray, List.set_cons_zero, List.set_cons_succ]
        first
          | (refine held_take 28 83 (v := ?_) rfl rfl (by kernel_rfl) (by kernel_rfl) (by kernel_rfl) (fun _ _ _ h => h) (by assumption) (by rfl) ?_ ?_; rotate_left; (focus (intro w hSw; (obtain ⟨z0, z1, z2, z3, z4, z5⟩ := FX.out _ hSw); go_simp <;> with_reducible rfl)))
          | refine held_pass 28 83 rfl rfl (by kernel_rfl) (by kernel_rfl) (by kernel_rfl) (fun _ _ _ h => h) (by assumption) (by rfl) ?_
        simp only [Act.put, List.setIfInBounds_toArray, List.set_cons_zero, List.set_cons_succ]
        first
          | (refine held_take 29 84 (v := ?_) rfl rfl (by kernel_rfl) (by kernel_rfl) (by kernel_rfl) (fun _ _ _ h => h) (by assumption) (by rfl) ?_ ?_; rotate_left; (focus (intro w hSw; (obtain ⟨z0, z1, z2, z3, z4, z5⟩ := FX.out _ hSw); go_simp <;> with_reducible rfl)))
          | refine held_pass 29 84 rfl rfl (by kernel_rfl) (by kernel_rfl) (by kernel_rfl) (fun _ _ _ h => h) (by assumption) (by rfl) ?_
        simp only [Act.put, List.setIfInBounds_toArray, List.set_cons_zero, List.set_cons_succ]
        first
          | (refine held_take 30 85 (v := ?_) rfl rfl (by kernel_rfl) (by kernel_rfl) (by kernel_rfl) (fun _ _ _ h => h) (by assumption) (by rfl) ?_ ?_; rotate_left; (focus (intro w hSw; (obtain ⟨z0, z1, z2, z3, z4, z5⟩ := FX.out _ hSw); go_simp <;> with_reducible rfl)))
          | refine held_pass 30 85 rfl rfl (by kernel_rfl) (by kernel_rfl) (by kernel_rfl) (fun _ _ _ h => h) (by assumption) (by rfl) ?_
        simp only [Act.put, List.setIfInBounds_toArray, List.set_cons_zero, List.set_cons_succ]
        refine held_call 31 86 rfl rfl (by kernel_rfl) (by rfl) (fun K hK => ?_)
        simp only [Go.wp_at_succ, Go.wp_at_zero]
        go_simp
        go_at_call 10
        (with_reducible refine (HFr.out _).mono ?_)
        rintro e u2 ⟨rfl, hb⟩
        have D2 : Below w2.heap.size w2 u2 := D1.trans (hb.mono D1.size)
        clear hb
        first | (with_reducible refine hK.out _ _ ?_ (fun hHeld => ?_)) | (go_wp2_with fail; refine hK.out _ _ ?_ (fun hHeld => ?_))
        · exact D2
        clear hK K
        try simp only [Act.put, List.setIfInBounds_toArray, List.set_cons_zero, List.set_cons_succ]
        first
          | (refine held_take 32 87 (v := ?_) rfl rfl (by kernel_rfl) (by kernel_rfl) (by kernel_rfl) (fun _ _ _ h => h) (by assumption) (by rfl) ?_ ?_; rotate_left; (focus (intro w hSw; (obtain ⟨z0, z1, z2, z3, z4, z5⟩ := FX.out _ hSw); go_simp <;> with_reducible rfl)))
          | refine held_pass 32 87 rfl rfl (by kernel_rfl) (by kernel_rfl) (by kernel_rfl) (fun _ _ _ h => h) (by assumption) (by rfl) ?_
        simp only [Act.put, List.setIfInBounds_toArray, List.set_cons_zero, List.set_cons_succ]
        first
          | (refine held_take 33 88 (v := ?_) rfl rfl (by kernel_rfl) (by kernel_rfl) (by kernel_rfl) (fun _ _ _ h => h) (by assumption) (by rfl) ?_ ?_; rotate_left; (focus (intro w hSw; (obtain ⟨z0, z1, z2, z3, z4, z5⟩ := FX.out _ hSw); go_simp <;> with_reducible rfl)))
          | refine held_pass 33 88 rfl rfl (by kernel_rfl) (by kernel_rfl) (by kernel_rfl) (fun _ _ _ h => h) (by assumption) (by rfl) ?_
        simp only [Act.put, List.setIfInBounds_toArray, List.set_cons_zero, List.set_cons_succ]
        first
          | (refine held_take 34 89 (v := ?_) rfl rfl (by kernel_rfl) (by kernel_rfl) (by kernel_rfl) (fun _ _ _ h => h) (by assumption) (by rfl) ?_ ?_; rotate_left; (focus (intro w hSw; (obtain ⟨z0, z1, z2, z3, z4, z5⟩ := FX.out _ hSw); go_simp <;> with_reducible rfl)))
          | refine held_pass 34 89 rfl rfl (by kernel_rfl) (by kernel_rfl) (by kernel_rfl) (fun _ _ _ h => h) (by assumption) (by rfl) ?_
        simp only [Act.put, List.setIfInBounds_toArray, List.set_cons_zero, List.set_cons_succ]
        first
          | (refine held_take 35 90 (v := ?_) rfl rfl (by kernel_rfl) (by kernel_rfl) (by kernel_rfl) (fun _ _ _ h => h) (by assumption) (by rfl) ?_ ?_; rotate_left; (focus (intro w hSw; (obtain ⟨z0, z1, z2, z3, z4, z5⟩ := FX.out _ hSw); go_simp <;> with_reducible rfl)))
          | refine held_pass 35 90 rfl rfl (by kernel_rfl) (by kernel_rfl) (by kernel_rfl) (fun _ _ _ h => h) (by assumption) (by rfl) ?_
        simp only [Act.put, List.setIfInBounds_toArray, List.set_cons_zero, List.set_cons_succ]
        first
          | (refine held_take 36 91 (v := ?_) rfl rfl (by kernel_rfl) (by kernel_rfl) (by kernel_rfl) (fun _ _ _ h => h) (by assumption) (by rfl) ?_ ?_; rotate_left; (focus (intro w hSw; (obtain ⟨z0, z1, z2, z3, z4, z5⟩ := FX.out _ hSw); go_simp <;> with_reducible rfl)))
          | refine held_pass 36 91 rfl rfl (by kernel_rfl) (by kernel_rfl) (by kernel_rfl) (fun _ _ _ h => h) (by assumption) (by rfl) ?_
        simp only [Act.put, List.setIfInBounds_toArray, List.set_cons_zero, List.set_cons_succ]
        first
          | (refine held_take 37 92 (v := ?_) rfl rfl (by kernel_rfl) (by kernel_rfl) (by kernel_rfl) (fun _ _ _ h => h) (by assumption) (by rfl) ?_ ?_; rotate_left; (focus (intro w hSw; (obtain ⟨z0, z1, z2, z3, z4, z5⟩ := FX.out _ hSw); go_simp <;> with_reducible rfl)))
          | refine held_pass 37 92 rfl rfl (by kernel_rfl) (by kernel_rfl) (by kernel_rfl) (fun _ _ _ h => h) (by assumption) (by rfl) ?_
        simp only [Act.put, List.setIfInBounds_toArray, List.set_cons_zero, List.set_cons_succ]
        first
          | (refine held_take 38 93 (v := ?_) rfl rfl (by kernel_rfl) (by kernel_rfl) (by kernel_rfl) (fun _ _ _ h => h) (by assumption) (by rfl) ?_ ?_; rotate_left; (focus (intro w hSw; (obtain ⟨z0, z1, z2, z3, z4, z5⟩ := FX.out _ hSw); go_simp <;> with_reducible rfl)))
          | refine held_pass 38 93 rfl rfl (by kernel_rfl) (by kernel_rfl) (by kernel_rfl) (fun _ _ _ h => h) (by assumption) (by rfl) ?_
        simp only [Act.put, List.setIfInBounds_toArray, List.set_cons_zero, List.set_cons_succ]
        first
          | (refine held_take 39 94 (v := ?_) rfl rfl (by kernel_rfl) (by kernel_rfl) (by kernel_rfl) (fun _ _ _ h => h) (by assumption) (by rfl) ?_ ?_; rotate_left; (focus (intro w hSw; (obtain ⟨z0, z1, z2, z3, z4, z5⟩ := FX.out _ hSw); go_simp <;> with_reducible rfl)))
          | refine held_pass 39 94 rfl rfl (by kernel_rfl) (by kernel_rfl) (by kernel_rfl) (fun _ _ _ h => h) (by assumption) (by rfl) ?_
        simp only [Act.put, List.setIfInBounds_toArray, List.set_cons_zero, List.set_cons_succ]
        first
          | (refine held_take 40 95 (v := ?_) rfl rfl (by kernel_rfl) (by kernel_rfl) (by kernel_rfl) (fun _ _ _ h => h) (by assumption) (by rfl) ?_ ?_; rotate_left; (focus (intro w hSw; (obtain ⟨z0, z1, z2, z3, z4, z5⟩ := FX.out _ hSw); go_simp <;> with_reducible rfl)))
          | refine held_pass 40 95 rfl rfl (by kernel_rfl) (by kernel_rfl) (by kernel_rfl) (fun _ _ _ h => h) (by assumption) (by rfl) ?_
        simp only [Act.put, List.setIfInBounds_toArray, List.set_cons_zero, List.set_cons_succ]
        first
          | (refine held_take 41 96 (v := ?_) rfl rfl (by kernel_rfl) (by kernel_rfl) (by kernel_rfl) (fun _ _ _ h => h) (by assumption) (by rfl) ?_ ?_; rotate_left; (focus (intro w hSw; (obtain ⟨z0, z1, z2, z3, z4, z5⟩ := FX.out _ hSw); go_simp <;> with_reducible rfl)))
          | refine held_pass 41 96 rfl rfl (by kernel_rfl) (by kernel_rfl) (by kernel_rfl) (fun _ _ _ h => h) (by assumption) (by rfl) ?_
        simp only [Act.put, List.setIfInBounds_toArray, List.set_cons_zero, List.set_cons_succ]
        first
          | (refine held_take 42 97 (v := ?_) rfl rfl (by kernel_rfl) (by kernel_rfl) (by kernel_rfl) (fun _ _ _ h => h) (by assumption) (by rfl) ?_ ?_; rotate_left; (focus (intro w hSw; (obtain ⟨z0, z1, z2, z3, z4, z5⟩ := FX.out _ hSw); go_simp <;> with_reducible rfl)))
          | refine held_pass 42 97 rfl rfl (by kernel_rfl) (by kernel_rfl) (by kernel_rfl) (fun _ _ _ h => h) (by assumption) (by rfl) ?_
        simp only [Act.put, List.setIfInBounds_toArray, List.set_cons_zero, List.set_cons_succ]
        first
          | (refine held_take 43 98 (v := ?_) rfl rfl (by kernel_rfl) (by kernel_rfl) (by kernel_rfl) (fun _ _ _ h => h) (by assumption) (by rfl) ?_ ?_; rotate_left; (focus (intro w hSw; (obtain ⟨z0, z1, z2, z3, z4, z5⟩ := FX.out _ hSw); go_simp <;> with_reducible rfl)))
          | refine held_pass 43 98 rfl rfl (by kernel_rfl) (by kernel_rfl) (by kernel_rfl) (fun _ _ _ h => h) (by assumption) (by rfl) ?_
        simp only [Act.put, List.setIfInBounds_toArray, List.set_cons_zero, List.set_cons_succ]
        first
          | (refine held_take 44 99 (v := ?_) rfl rfl (by kernel_rfl) (by kernel_rfl) (by kernel_rfl) (fun _ _ _ h => h) (by assumption) (by rfl) ?_ ?_; rotate_left; (focus (intro w hSw; (obtain ⟨z0, z1, z2, z3, z4, z5⟩ := FX.out _ hSw); go_simp <;> with_reducible rfl)))
          | refine held_pass 44 99 rfl rfl (by kernel_rfl) (by kernel_rfl) (by kernel_rfl) (fun _ _ _ h => h) (by assumption) (by rfl) ?_
        simp only [Act.put, List.setIfInBounds_toArray, List.set_cons_zero, List.set_cons_succ]
        first
          | (refine held_take 45 100 (v := ?_) rfl rfl (by kernel_rfl) (by kernel_rfl) (by kernel_rfl) (fun _ _ _ h => h) (by assumption) (by rfl) ?_ ?_; rotate_left; (focus (intro w hSw; (obtain ⟨z0, z1, z2, z3, z4, z5⟩ := FX.out _ hSw); go_simp <;> with_reducible rfl)))
          | refine held_pass 45 100 rfl rfl (by kernel_rfl) (by kernel_rfl) (by kernel_rfl) (fun _ _ _ h => h) (by assumption) (by rfl) ?_
        simp only [Act.put, List.setIfInBounds_toArray, List.set_cons_zero, List.set_cons_succ]
        first
          | (refine held_take 46 101 (v := ?_) rfl rfl (by kernel_rfl) (by kernel_rfl) (by kernel_rfl) (fun _ _ _ h => h) (by assumption) (by rfl) ?_ ?_; rotate_left; (focus (intro w hSw; (obtain ⟨z0, z1, z2, z3, z4, z5⟩ := FX.out _ hSw); go_simp <;> with_reducible rfl)))
          | refine held_pass 46 101 rfl rfl (by kernel_rfl) (by kernel_rfl) (by kernel_rfl) (fun _ _ _ h => h) (by assumption) (by rfl) ?_
        simp only [Act.put, List.setIfInBounds_toArray, List.set_cons_zero, List.set_cons_succ]
        first
          | (refine held_take 47 102 (v := ?_) rfl rfl (by kernel_rfl) (by kernel_rfl) (by kernel_rfl) (fun _ _ _ h => h) (by assumption) (by rfl) ?_ ?_; rotate_left; (focus (intro w hSw; (obtain ⟨z0, z1, z2, z3, z4, z5⟩ := FX.out _ hSw); go_simp <;> with_reducible rfl)))
          | refine held_pass 47 102 rfl rfl (by kernel_rfl) (by kernel_rfl) (by kernel_rfl) (fun _ _ _ h => h) (by assumption) (by rfl) ?_
        simp only [Act.put, List.setIfInBounds_toArray, List.set_cons_zero, List.set_cons_succ]
        first
          | (refine held_take 48 103 (v := ?_) rfl rfl (by kernel_rfl) (by kernel_rfl) (by kernel_rfl) (fun _ _ _ h => h) (by assumption) (by rfl) ?_ ?_; rotate_left; (focus (intro w hSw; (obtain ⟨z0, z1, z2, z3, z4, z5⟩ := FX.out _ hSw); go_simp <;> with_reducible rfl)))
          | refine held_pass 48 103 rfl rfl (by kernel_rfl) (by kernel_rfl) (by kernel_rfl) (fun _ _ _ h => h) (by assumption) (by rfl) ?_
        simp only [Act.put, List.setIfInBounds_toArray, List.set_cons_zero, List.set_cons_succ]
        first
          | (refine held_take 49 104 (v := ?_) rfl rfl (by kernel_rfl) (by kernel_rfl) (by kernel_rfl) (fun _ _ _ h => h) (by assumption) (by rfl) ?_ ?_; rotate_left; (focus (intro w hSw; (obtain ⟨z0, z1, z2, z3, z4, z5⟩ := FX.out _ hSw); go_simp <;> with_reducible rfl)))
          | refine held_pass 49 104 rfl rfl (by kernel_rfl) (by kernel_rfl) (by kernel_rfl) (fun _ _ _ h => h) (by assumption) (by rfl) ?_
        simp only [Act.put, List.setIfInBounds_toArray, List.set_cons_zero, List.set_cons_succ]
        first
          | (refine held_take 50 105 (v := ?_) rfl rfl (by kernel_rfl) (by kernel_rfl) (by kernel_rfl) (fun _ _ _ h => h) (by assumption) (by rfl) ?_ ?_; rotate_left; (focus (intro w hSw; (obtain ⟨z0, z1, z2, z3, z4, z5⟩ := FX.out _ hSw); go_simp <;> with_reducible rfl)))
          | refine held_pass 50 105 rfl rfl (by kernel_rfl) (by kernel_rfl) (by kernel_rfl) (fun _ _ _ h => h) (by assumption) (by rfl) ?_
        simp only [Act.put, List.setIfInBounds_toArray, List.set_cons_zero, List.set_cons_succ]
        first
          | (refine held_take 51 106 (v := ?_) rfl rfl (by kernel_rfl) (by kernel_rfl) (by kernel_rfl) (fun _ _ _ h => h) (by assumption) (by rfl) ?_ ?_; rotate_left; (focus (intro w hSw; (obtain ⟨z0, z1, z2, z3, z4, z5⟩ := FX.out _ hSw); go_simp <;> with_reducible rfl)))
          | refine held_pass 51 106 rfl rfl (by kernel_rfl) (by kernel_rfl) (by kernel_rfl) (fun _ _ _ h => h) (by assumption) (by rfl) ?_
        simp only [Act.put, List.setIfInBounds_toArray, List.set_cons_zero, List.set_cons_succ]
        first
          | (refine held_take 52 107 (v := ?_) rfl rfl (by kernel_rfl) (by kernel_rfl) (by kernel_rfl) (fun _ _ _ h => h) (by assumption) (by rfl) ?_ ?_; rotate_left; (focus (intro w hSw; (obtain ⟨z0, z1, z2, z3, z4, z5⟩ := FX.out _ hSw); go_simp <;> with_reducible rfl)))
          | refine held_pass 52 107 rfl rfl (by kernel_rfl) (by kernel_rfl) (by kernel_rfl) (fun _ _ _ h => h) (by assumption) (by rfl) ?_
        simp only [Act.put, List.setIfInBounds_toArray, List.set_cons_zero, List.set_cons_succ]
        first
          | (refine held_take 53 108 (v := ?_) rfl rfl (by kernel_rfl) (by kernel_rfl) (by kernel_rfl) (fun _ _ _ h => h) (by assumption) (by rfl) ?_ ?_; rotate_left; (focus (intro w hSw; (obtain ⟨z0, z1, z2, z3, z4, z5⟩ := FX.out _ hSw); go_simp <;> with_reducible rfl)))
          | refine held_pass 53 108 rfl rfl (by kernel_rfl) (by kernel_rfl) (by kernel_rfl) (fun _ _ _ h => h) (by assumption) (by rfl) ?_
        simp only [Act.put, List.setIfInBounds_toArray, List.set_cons_zero, List.set_cons_succ]
        first
          | (refine held_take 54 2 (v := ?_) rfl rfl (by kernel_rfl) (by kernel_rfl) (by kernel_rfl) (fun _ _ _ h => h) (by assumption) (by rfl) ?_ ?_; rotate_left; (focus (intro w hSw; (obtain ⟨z0, z1, z2, z3, z4, z5⟩ := FX.out _ hSw); go_simp <;> with_reducible rfl)))
          | refine held_pass 54 2 rfl rfl (by kernel_rfl) (by kernel_rfl) (by kernel_rfl) (fun _ _ _ h => h) (by assumption) (by rfl) ?_
        simp only [Act.put, List.setIfInBounds_toArray, List.set_cons_zero, List.set_cons_succ]
        refine wpAnyH_done (by kernel_rfl) ?_ _
        go_wp2
        go_returns
        exact ⟨rfl, HNX.out.trans ((B1.out.trans (B2.out.mono hs1)).trans (D2.mono (Nat.le_trans hs1 hs2)) |>.mono hs)⟩

set_option maxRecDepth 100000 in
theorem lifted (os : Os) (started : os.Started) (H : Type) (enc : TypeId × Value → H) :
    ReturnsInHanded {} Try.checked os 7 .any (Rows.walBoundsSpec.pre6 enc Try.prog Try.f7 Rows.walBoundsRow.domain false) (Rows.walBoundsSpec.post enc Try.prog Try.f7 false true false false) := by
  refine returnsInHanded_of_change (C := Try.checked) own started (by kernel_rfl) Try.func7
    (ChangeSpec.witness6 (enc := enc) (C := Try.checked) false ⟨#[], #[.int .i64 0], []⟩ 8 (by kernel_rfl) (by kernel_rfl) (by kernel_rfl) (by kernel_rfl)) ?_
  intro W base args ds gs before hval0 hW hcnd _
  have hval : ∀ (j : Nat) t v, Try.f7.params[j]? = some t → args[j]? = some v → Value.okWide Try.prog W .any base t v := hval0
  have hW' := hW
  obtain ⟨p, q, hA0, hV, rfl, hfz, hnd⟩ := hW
  have hA : DataW.TrodAll enc Try.prog W 0 (fun _ => true) true Try.f7.params.toList args.toList ds p := hA0
  rw [Try.params7] at hA hval
  obtain ⟨v0, vs0, d0, ds0, p0, q0, hargs, rfl, rfl, h0, r0⟩ := trodAll_cons hA
  obtain ⟨rfl, rfl, rfl⟩ := trodAll_nil r0
  obtain rfl : args = #[v0] := by cases args; simp_all
  obtain ⟨rfl, rfl⟩ := trodVars_none hV
  obtain ⟨a0, rfl, rfl, rfl, w0⟩ := open_int Try.underlying3 (hval 0 3 v0 rfl rfl) h0
  clear hA0 hval0
  refine (walk a0 W w0).mono fun e W' ⟨he, bel⟩ => ?_
  subst he
  exact ⟨_, rfl, _, _, _, [], _, [], hW', trodAll_mk1 (shut_bool Try.underlying4 _), (trodAll_cons_mk (shut_int Try.underlying3 w0) trodAll_mk0), rfl, bel.frame _, fun h => by cases h⟩

theorem over : Rows.walBoundsRow.holds Try.pinned (OpenSpec.ofChange Rows.walBoundsSpec) :=
  OpenClaim.holds_of_wide 7 Try.f7 rfl rfl rfl rfl rfl rfl rfl ⟨rfl, rfl, rfl, rfl, rfl⟩ rfl rfl rfl rfl rfl (by kernel_rfl) Try.func7 (by kernel_rfl)
    (of_decide_eq_true (by kernel_rfl)) (by unfold Func.isWrapper; first | (rw [if_pos (by decide +kernel)]; kernel_rfl) | (rw [if_neg (by decide +kernel)]; exact ⟨rfl, rfl⟩))
    (fun os started H enc _ => lifted os started H enc)
end Go.Proofs.Ytpmigpgkicacpaa.WalBounds

namespace Go.Proofs.Ytpmigpgkicacpaa
theorem walBounds_holds : Rows.WalBoundsSaid := WalBounds.over
#print axioms walBounds_holds
end Go.Proofs.Ytpmigpgkicacpaa
