/-
  PROVED: casebooklaw5.StoreCopies answers true and leaves its arguments as they were, for any requests, any resource: the row's own reading and nothing else is assumed.
-/
import Derived.Test.YticokpaegadbbaaStoreL
namespace Go.Proofs.Yticokpaegadbbaa.StoreCopies
open Go.ChangeShapes Go.WideShapes Go.ChangeAt Go.RowKit

theorem modn (p : Int) (m : Int) (hm : 0 < m) : ∃ k : Nat, (k : Int) < m ∧ (IntKind.u64.wrap p).tmod m = (k : Int) := by
  have hu : 0 ≤ IntKind.u64.wrap p := by simp [IntKind.wrap, IntKind.bits, IntKind.signed]; omega
  have h0 := Int.emod_nonneg (IntKind.u64.wrap p) (by omega : m ≠ 0)
  have h1 := Int.emod_lt_of_pos (IntKind.u64.wrap p) hm
  refine ⟨((IntKind.u64.wrap p).tmod m).toNat, ?_, ?_⟩
  · rw [Int.tmod_eq_emod_of_nonneg hu]; omega
  · rw [Int.tmod_eq_emod_of_nonneg hu]; omega

theorem cell_set {u : World} {p : Addr} (v : Value) (hp : (u.cell? p).isSome = true) (q : Addr) : (u.setCell p v).cell? q = if q = p then some v else u.cell? q := by
  by_cases h : q = p
  · subst h; rw [if_pos rfl]; exact World.cell?_setCell_same' _ _ _ hp
  · rw [if_neg h]; exact World.cell?_setCell_other _ _ _ _ (fun e : p = q => h e.symm)

/-- Versions that the call may write. -/
def VRow (u : World) (lo g m : Nat) : Prop := lo ≤ g ∧ (∀ j, j < m → (∃ x, u.cell? ⟨g, j * 2, none⟩ = some (.bool x)) ∧ (∃ s, u.cell? ⟨g, j * 2 + 1, none⟩ = some (.string s))) ∧ ∀ o, u.frozen? ⟨g, o, none⟩ = false
theorem vrow_set {u : World} {lo g m k : Nat} (h : VRow u lo g m) (hk : k < m) (s : ByteArray) (x : Bool) : VRow ((u.setCell ⟨g, k * 2 + 1, none⟩ (.string s)).setCell ⟨g, k * 2, none⟩ (.bool x)) lo g m := by
  obtain ⟨h1, h2, h3⟩ := h
  obtain ⟨⟨x0, c0⟩, ⟨s0, c1⟩⟩ := h2 k hk
  have p1 : (u.cell? ⟨g, k * 2 + 1, none⟩).isSome = true := by rw [c1]; rfl
  have p2 : ((u.setCell ⟨g, k * 2 + 1, none⟩ (.string s)).cell? ⟨g, k * 2, none⟩).isSome = true := by
    rw [cell_set _ p1]; split
    · rfl
    · rw [c0]; rfl
  refine ⟨h1, fun j hj => ⟨?_, ?_⟩, fun o => by rw [World.frozen?_setCell, World.frozen?_setCell]; exact h3 o⟩
  · rw [cell_set _ p2, cell_set _ p1]
    split
    · exact ⟨_, rfl⟩
    split
    · rename_i _ e; injection e with _ e2 _; omega
    · exact (h2 j hj).1
  · rw [cell_set _ p2, cell_set _ p1]
    split
    · rename_i e; injection e with _ e2 _; omega
    split
    · exact ⟨_, rfl⟩
    · exact (h2 j hj).2
theorem vrow_own {w : World} {lo : Nat} {ao : Option Addr} {m cap : Nat} {L : List VerV} (h : w.ownsRow lo 61 2 (.slice ao m cap) m (verCells L)) : m = 0 ∨ ∃ g, ao = some ⟨g, 0, none⟩ ∧ VRow w lo g m := by
  have hn : L.length = m := by have := h.1; rw [verCells_length] at this; omega
  rcases h.2 with ⟨_, h0⟩ | ⟨g, cap', cur, he, hg, hh, _⟩
  · exact .inl h0
  · simp only [Value.slice.injEq] at he
    obtain ⟨rfl, _, rfl⟩ := he
    refine .inr ⟨g, rfl, hg, fun j hj => ?_, fun o => by simp [World.frozen?, hh]⟩
    have hx := verCells_get L j (by omega)
    have h1 := h.cells (g := g) rfl _ _ hx.1
    have h2 := h.cells (g := g) rfl _ _ hx.2
    rw [Addr.add_lit] at h1 h2
    simp only [Nat.zero_add] at h1 h2
    exact ⟨⟨_, h1⟩, ⟨_, h2⟩⟩

/-- A row of one-cell elements that the call may write. -/
def ORow (u : World) (lo g m : Nat) : Prop := lo ≤ g ∧ (∀ j, j < m → (u.cell? ⟨g, j, none⟩).isSome = true) ∧ ∀ o, u.frozen? ⟨g, o, none⟩ = false
theorem orow_set {u : World} {lo g m k : Nat} (h : ORow u lo g m) (hk : k < m) (v : Value) : ORow (u.setCell ⟨g, k, none⟩ v) lo g m := by
  obtain ⟨h1, h2, h3⟩ := h
  refine ⟨h1, fun j hj => ?_, fun o => by rw [World.frozen?_setCell]; exact h3 o⟩
  rw [cell_set _ (h2 k hk)]
  split
  · rfl
  · exact h2 j hj
theorem orow_own {w : World} {lo : Nat} {e : TypeId} {ao : Option Addr} {m cap : Nat} {xs : List Value} (h : w.ownsRow lo e 1 (.slice ao m cap) m xs) : m = 0 ∨ ∃ g, ao = some ⟨g, 0, none⟩ ∧ ORow w lo g m := by
  have hn : xs.length = m := by have := h.1; omega
  rcases h.2 with ⟨_, h0⟩ | ⟨g, cap', cur, he, hg, hh, _⟩
  · exact .inl h0
  · simp only [Value.slice.injEq] at he
    obtain ⟨rfl, _, rfl⟩ := he
    refine .inr ⟨g, rfl, hg, fun j hj => ?_, fun o => by simp [World.frozen?, hh]⟩
    have h1 := h.cells (g := g) rfl j _ (List.getElem?_eq_getElem (by omega))
    rw [Addr.add_lit] at h1
    simp only [Nat.zero_add] at h1
    rw [h1]; rfl

set_option maxRecDepth 100000 in
set_option maxHeartbeats 2000000 in
theorem many (ao : Option Addr) (n cap : Nat) (id : Int) (R : Bool) (w : World) (h : R = false ∨ 60 < n) (HF : Hid (∀ u, Below w.heap.size w u → Calls Try.prog 12 #[.slice ao n cap] u fun e w' => e = .returned (.bool R) ∧ u = w')) :
    Calls Try.prog 9 #[.slice ao n cap, .int .i64 id] w fun e w' => e = .returned (.bool true) ∧ Below w.heap.size w w' := by
  have HT := Lib.hid (fun u => told5_any u)
  rcases (show R = false ∨ (R = true ∧ 60 < n) by cases R <;> simp_all) with rfl | ⟨rfl, h2⟩
  all_goals
    clear h
    go_enter Try.func9, Try.ntmps9
    go_wp2_with fail
    refine (HF.out _ (by go_grown)).mono ?_
    rintro e w2 ⟨rfl, rfl⟩
    go_wp2_with fail
    refine (HT.out _).mono ?_
    rintro e w2 ⟨rfl, B2⟩
    have C2 := Lib.hid B2
    clear B2
    go_wp2
    go_returns
    exact ⟨rfl, C2.out⟩

set_option maxRecDepth 100000 in
set_option maxHeartbeats 4000000 in
theorem run (ao : Option Addr) (n cap : Nat) (L : List ReqV) (ida : Int) (kk : Nat) (w : World) (hn : L.length = n) (h60 : n ≤ 60) (hs : ∀ q ∈ L, q.data.size ≤ 100) (HL : Hid (ReqsAt w ao L)) (hkk : kk < 32) (hid : (IntKind.u64.wrap ida).tmod 32 = (kk : Int))
    (HF : Hid (∀ u, Below w.heap.size w u → Calls Try.prog 12 #[.slice ao n cap] u fun e w' => e = .returned (.bool true) ∧ u = w')) :
    Calls Try.prog 9 #[.slice ao n cap, .int .i64 ida] w fun e w' => e = .returned (.bool true) ∧ Below w.heap.size w w' := by
  have H1 := Lib.hid (fun u => snew_r 8 (by decide) (by decide) u)
  have HT := Lib.hid (fun u => told5_any u)
  have HN := Lib.hid hn
  have HS := Lib.hid hs
  have kp : (0 : Int) ≤ (kk : Int) := by omega
  have k32 : (kk : Int) < 32 := by omega
  clear hn hs
  go_enter Try.func9, Try.ntmps9
  go_wp2_with fail
  refine (HF.out _ (by go_grown)).mono ?_
  rintro e w2 ⟨rfl, rfl⟩
  go_wp2_with fail
  refine (H1.out _).mono ?_
  rintro e w1 ⟨rfl, S1, _, B1⟩
  have C1 := Lib.hid B1
  have T1 := Lib.hid S1
  clear B1 S1
  go_wp2
  go_loopw [7] (fun vi wr => ∃ (k : Nat) (s : StoV), k ≤ n ∧ vi = .int .i64 k ∧ Fit s k ∧ Sto layP wr w.heap.size s ∧ Below w.heap.size w wr) (fun vi _ => n - (intOf vi).toNat)
  case atStart => exact ⟨0, newV 8, by omega, rfl, Fit.new 8 (by decide) (by decide), T1.out, C1.out⟩
  case round =>
    obtain ⟨k, s, hk, rfl, hf, hst, hbel⟩ := hrel
    have HFt := Lib.hid hf
    have HSt := Lib.hid hst
    have HB := Lib.hid hbel
    have hlt0 := hst.lt
    clear hf hst hbel T1
    by_cases hlt : k < n
    · have hkL : k < L.length := by rw [HN.out]; exact hlt
      obtain ⟨b, off, rfl, hb, hc⟩ := HL.out k hkL
      have FX := Lib.hid hc
      have hsz := HS.out _ (List.getElem_mem hkL)
      clear hc
      generalize L[k] = q at FX hsz
      have i0 : (0 : Int) ≤ (k : Int) := by omega
      have i1 : (k : Int) < (n : Int) := by omega
      have hsm : q.data.size ≤ maxLen := by unfold maxLen; omega
      have HPut : Hid (∀ u, Sto layP u w.heap.size s → Calls Try.prog 14 #[.pointer (some ⟨w.heap.size, 0, none⟩), .agg #[.int .i64 q.client, .int .i64 q.seq, .int .i64 q.kind, .int .i64 q.id, .int .i64 q.mtch, .string q.data]] u (PutR layP w.heap.size (putA s q).s (putA s q).code (putA s q).ver (putA s q).data (putA s q).err u)) :=
        fun u hu => sput_r w.heap.size s _ k q.client q.seq q.kind q.id q.mtch q.data _ _ _ _ (show _ = _ from rfl) hsm HFt.out (by omega) u hu
      have HFA : Hid (Fit (putA s q).s (k + 1)) := HFt.out.put q
      clear hkL hsm
      generalize putA s q = A at HPut HFA
      obtain ⟨s', cc, vv, dd, x⟩ := A
      obtain ⟨cl, sq, kd, id, mt, dt⟩ := q
      simp only at hsz HPut HFA
      unfold ReqCells at FX
      simp only at FX
      obtain ⟨f0, f1, f2, f3, f4, f5⟩ := FX.out wr HB.out
      go_wp2_with fail
      refine (HPut.out _ HSt.out).mono ?_
      rintro e w3 ⟨a3, c3, rfl, _, B3, S3⟩
      have Cw3 := Lib.hid (B3.below HB.out (Nat.le_refl _) HB.out.size)
      have Sw3 := Lib.hid S3
      clear B3 S3 f0 f1 f2 f3 f4 f5
      go_wp2
      go_roundw
      case rel => exact ⟨k + 1, s', by omega, by go_num, HFA.out, Sw3.out, Cw3.out⟩
      case measure => simp [intOf]; omega
    · obtain rfl : k = n := by omega
      obtain ⟨wo, hwo⟩ : ∃ x, x = wr := ⟨_, rfl⟩
      subst hwo
      obtain ⟨S, hS⟩ : ∃ S, stoS s = S := ⟨_, rfl⟩
      have HBy : Hid (∀ u, Below wo.heap.size wo u → Calls Try.prog 20 #[.pointer (some ⟨w.heap.size, 0, none⟩)] u (BytesStr S u)) := fun u hu => by rw [← hS]; exact sbytes_s w.heap.size s k u (HSt.out.on hu) HFt.out (by omega)
      have HBz : Hid (∀ u, Below wo.heap.size wo u → Calls Try.prog 20 #[.pointer (some ⟨w.heap.size, 0, none⟩)] u fun e w' => ∃ ao m cap, m ≤ 300000 ∧ e = .returned (.slice ao m cap) ∧ (m = 0 ∨ ∃ g, ao = some ⟨g, 0, none⟩ ∧ ORow w' u.heap.size g m) ∧ Below u.heap.size u w') := fun u hu => by
        refine (sbytes_r w.heap.size s k u (HSt.out.on hu) HFt.out (by omega)).mono fun e w' ⟨v', he, ho, hb⟩ => ?_
        have hl := stoB_len s k HFt.out (by omega)
        obtain ⟨a, c, rfl⟩ := own_shape ho
        exact ⟨a, _, c, hl, he, orow_own ho, hb⟩
      have HVs : Hid (∀ u, Below wo.heap.size wo u → Calls Try.prog 26 #[.pointer (some ⟨w.heap.size, 0, none⟩), .int .i64 kk] u fun e w' => ∃ ao m cap, m ≤ 100 ∧ e = .returned (.slice ao m cap) ∧ (m = 0 ∨ ∃ g, ao = some ⟨g, 0, none⟩ ∧ VRow w' u.heap.size g m) ∧ Below u.heap.size u w') := fun u hu => by
        have hrv : resV s kk = s.res kk := by rw [resV, if_pos ⟨kp, k32⟩]; rfl
        have hl := (HFt.out.res kk hkk).1
        refine (sversions_r w.heap.size kk s u (HSt.out.on hu) (by rw [hrv]; omega)).mono fun e w' ⟨v', he, ho, hb⟩ => ?_
        obtain ⟨a, c, rfl⟩ := own_shape ho
        rw [hrv] at ho he
        exact ⟨a, _, c, hl, he, vrow_own ho, hb⟩
      have HId : Hid (∀ u, Below wo.heap.size wo u → Calls Try.prog 27 #[.pointer (some ⟨w.heap.size, 0, none⟩)] u fun e w' => ∃ ao m cap, m ≤ 32 ∧ e = .returned (.slice ao m cap) ∧ (m = 0 ∨ ∃ g, ao = some ⟨g, 0, none⟩ ∧ ORow w' u.heap.size g m) ∧ Below u.heap.size u w') := fun u hu => by
        refine (sids_r w.heap.size s u (HSt.out.on hu) (fun i hi => by have := (HFt.out.res i hi).1; omega)).mono fun e w' ⟨v', he, ho, hb⟩ => ?_
        have hl := idsV_len s.res 32
        obtain ⟨a, c, rfl⟩ := own_shape ho
        exact ⟨a, _, c, hl, he, orow_own ho, hb⟩
      clear hS HFt HSt H1
      go_wp2_with fail
      refine (HBy.out _ (Below.refl _ _)).mono ?_
      rintro e w3 ⟨ax, nx, cx, rfl, hkc, B3⟩
      have hk3 := hkc _ (Below.refl _ _)
      have C3 := Lib.hid B3
      clear hkc B3
      go_wp2_with fail
      refine (HVs.out _ C3.out).mono ?_
      rintro e w4 ⟨av, m, cv, hm, rfl, hvr, B4⟩
      have C4 := Lib.hid (C3.out.trans (B4.mono C3.out.size))
      have hz4 := C3.out.size
      have HVR := Lib.hid hvr
      clear B4 hvr hk3
      go_wp2
      go_loopw [11] (fun vi wv => ∃ j : Nat, j ≤ m ∧ vi = .int .i64 j ∧ Hid (m = 0 ∨ ∃ g, av = some ⟨g, 0, none⟩ ∧ VRow wv w3.heap.size g m) ∧ Hid (Below wo.heap.size wo wv)) (fun vi _ => m - (intOf vi).toNat)
      case atStart => exact ⟨0, by omega, rfl, HVR, C4⟩
      case round =>
        obtain ⟨j, hj, rfl, HR, HBv⟩ := hrel
        have hrg := HR.out
        by_cases hlt2 : j < m
        · obtain ⟨g, rfl, hvr⟩ : ∃ g, av = some ⟨g, 0, none⟩ ∧ VRow wr w3.heap.size g m := by
            rcases hrg with h0 | h
            · omega
            · exact h
          obtain ⟨⟨x, c0⟩, ⟨s0, c1⟩⟩ := hvr.2.1 j hlt2
          have z0 := hvr.2.2 (j * 2)
          have z1 := hvr.2.2 (j * 2 + 1)
          have i0 : (0 : Int) ≤ (j : Int) := by omega
          have i1 : (j : Int) < (m : Int) := by omega
          have HV2 := Lib.hid (vrow_set hvr hlt2 ⟨#[122, 122]⟩ (!x))
          have hg := Nat.le_trans hz4 hvr.1
          have HB2 : Hid (Below wo.heap.size wo ((wr.setCell ⟨g, j * 2 + 1, none⟩ (.string ⟨#[122, 122]⟩)).setCell ⟨g, j * 2, none⟩ (.bool (!x)))) := (HBv.out.setCell (p := ⟨g, j * 2 + 1, none⟩) hg _).setCell (p := ⟨g, j * 2, none⟩) hg _
          clear hvr hrg HR HBv
          go_wp2
          go_roundw
          case rel => exact ⟨j + 1, by omega, by go_num, .inr ⟨g, rfl, HV2.out⟩, HB2.out⟩
          case measure => simp [intOf]; omega
        · clear hrg HR HVR C4 C3 hz4
          obtain ⟨wx, hwx⟩ : ∃ x, x = wr := ⟨_, rfl⟩
          subst hwx
          go_wp2_with fail
          refine (HId.out _ HBv.out).mono ?_
          rintro e w5 ⟨ai, mi, ci, hmi, rfl, hir, B5⟩
          have hz5 := HBv.out.size
          have C5 : Hid (Below wo.heap.size wo w5) := HBv.out.trans (B5.mono HBv.out.size)
          have HIR := Lib.hid hir
          clear B5 hir HBv
          go_wp2
          go_loopw [13] (fun vi wv => ∃ j : Nat, j ≤ mi ∧ vi = .int .i64 j ∧ Hid (mi = 0 ∨ ∃ g, ai = some ⟨g, 0, none⟩ ∧ ORow wv wx.heap.size g mi) ∧ Hid (Below wo.heap.size wo wv)) (fun vi _ => mi - (intOf vi).toNat)
          case atStart => exact ⟨0, by omega, rfl, HIR, C5⟩
          case round =>
            obtain ⟨j, hj, rfl, HR, HBv⟩ := hrel
            have hrg := HR.out
            by_cases hlt3 : j < mi
            · obtain ⟨g, rfl, hor⟩ : ∃ g, ai = some ⟨g, 0, none⟩ ∧ ORow wr wx.heap.size g mi := by
                rcases hrg with h0 | h
                · omega
                · exact h
              obtain ⟨y, hy⟩ := Option.isSome_iff_exists.1 (hor.2.1 j hlt3)
              have z0 := hor.2.2 j
              have i0 : (0 : Int) ≤ (j : Int) := by omega
              have i1 : (j : Int) < (mi : Int) := by omega
              have HV2 := Lib.hid (orow_set hor hlt3 (.int .i64 (-1)))
              have hg := Nat.le_trans hz5 hor.1
              have HB2 : Hid (Below wo.heap.size wo (wr.setCell ⟨g, j, none⟩ (.int .i64 (-1)))) := HBv.out.setCell (p := ⟨g, j, none⟩) hg _
              clear hor hrg HR HBv
              go_wp2
              go_roundw
              case rel => exact ⟨j + 1, by omega, by go_num, .inr ⟨g, rfl, HV2.out⟩, HB2.out⟩
              case measure => simp [intOf]; omega
            · clear hrg HR HIR C5 hz5
              obtain ⟨wy, hwy⟩ : ∃ x, x = wr := ⟨_, rfl⟩
              subst hwy
              go_wp2_with fail
              refine (HBz.out _ HBv.out).mono ?_
              rintro e w6 ⟨ab, mb, cb, hmb, rfl, hbr, B6⟩
              have hz6 := HBv.out.size
              have C6 : Hid (Below wo.heap.size wo w6) := HBv.out.trans (B6.mono HBv.out.size)
              have HBR := Lib.hid hbr
              clear B6 hbr HBv
              go_wp2
              go_loopw [15] (fun vi wv => ∃ j : Nat, j ≤ mb ∧ vi = .int .i64 j ∧ Hid (mb = 0 ∨ ∃ g, ab = some ⟨g, 0, none⟩ ∧ ORow wv wy.heap.size g mb) ∧ Hid (Below wo.heap.size wo wv)) (fun vi _ => mb - (intOf vi).toNat)
              case atStart => exact ⟨0, by omega, rfl, HBR, C6⟩
              case round =>
                obtain ⟨j, hj, rfl, HR, HBv⟩ := hrel
                have hrg := HR.out
                by_cases hlt4 : j < mb
                · obtain ⟨g, rfl, hor⟩ : ∃ g, ab = some ⟨g, 0, none⟩ ∧ ORow wr wy.heap.size g mb := by
                    rcases hrg with h0 | h
                    · omega
                    · exact h
                  obtain ⟨y, hy⟩ := Option.isSome_iff_exists.1 (hor.2.1 j hlt4)
                  have z0 := hor.2.2 j
                  have i0 : (0 : Int) ≤ (j : Int) := by omega
                  have i1 : (j : Int) < (mb : Int) := by omega
                  have HV2 := Lib.hid (orow_set hor hlt4 (.int .u8 0))
                  have hg := Nat.le_trans hz6 hor.1
                  have HB2 : Hid (Below wo.heap.size wo (wr.setCell ⟨g, j, none⟩ (.int .u8 0))) := HBv.out.setCell (p := ⟨g, j, none⟩) hg _
                  clear hor hrg HR HBv
                  go_wp2
                  go_roundw
                  case rel => exact ⟨j + 1, by omega, by go_num, .inr ⟨g, rfl, HV2.out⟩, HB2.out⟩
                  case measure => simp [intOf]; omega
                · clear hrg HR HBR C6 hz6
                  go_wp2_with fail
                  refine (HT.out _).mono ?_
                  rintro e w7 ⟨rfl, B7⟩
                  have C7 : Hid (Below wo.heap.size wo w7) := HBv.out.trans (B7.mono HBv.out.size)
                  clear B7 HBv
                  go_wp2_with fail
                  refine (HBy.out _ C7.out).mono ?_
                  rintro e w8 ⟨a8, n8, c8, rfl, hkc, B8⟩
                  have hk8 := hkc _ (Below.refl _ _)
                  have C8 : Hid (Below wo.heap.size wo w8) := C7.out.trans (B8.mono C7.out.size)
                  clear hkc B8
                  go_wp2
                  go_returns
                  exact ⟨rfl, HB.out.trans (C8.out.mono HB.out.size)⟩

theorem walk (v : Value) (L : List ReqV) (ida : Int) (w : World) (hV : Reqs w w.heap.size v L) (_ : (Lit.int .i64 ida).wf = true) :
    Calls Try.prog 9 #[v, .int .i64 ida] w fun e w' => e = .returned (.bool true) ∧ Below w.heap.size w w' := by
  have hV' := hV
  obtain ⟨ao, cap, rfl, _⟩ := hV
  obtain ⟨hat, _, hml, hms⟩ := reqs_at hV'
  obtain ⟨kk, hkk, hid⟩ := modn ida 32 (by decide)
  have HF : ∀ R, R = decide (fewR L) → Hid (∀ u, Below w.heap.size w u → Calls Try.prog 12 #[.slice ao L.length cap] u fun e w' => e = .returned (.bool R) ∧ u = w') :=
    fun R hR u hu => few5_r ao _ cap L u rfl (reqs_on hV' hu) R hR
  by_cases hf : fewR L
  · have h1 := HF true (decide_eq_true hf).symm
    by_cases h60 : L.length ≤ 60
    · exact run ao _ cap L ida kk w rfl h60 hf.1 hat (by omega) hid h1
    · exact many ao _ cap ida true w (.inr (by omega)) h1
  · exact many ao _ cap ida false w (.inl rfl) (HF false (decide_eq_false hf).symm)

set_option maxRecDepth 100000 in
theorem lifted (os : Os) (started : os.Started) (H : Type) (enc : TypeId × Value → H) :
    ReturnsInHanded {} Try.checked os 9 .any (Rows.storeCopiesSpec.pre6 enc Try.prog Try.f9 Rows.storeCopiesRow.domain false) (Rows.storeCopiesSpec.post enc Try.prog Try.f9 false true false false) := by
  refine returnsInHanded_of_change (C := Try.checked) own started (by kernel_rfl) Try.func9
    (ChangeSpec.witness6 (enc := enc) (C := Try.checked) false ⟨#[], #[.slice none 0 0, .int .i64 0], []⟩ 8 (by kernel_rfl) (by kernel_rfl) (by kernel_rfl) (by kernel_rfl)) ?_
  intro W base args ds gs before hval0 hW hcnd _
  have hval : ∀ (j : Nat) t v, Try.f9.params[j]? = some t → args[j]? = some v → Value.okWide Try.prog W .any base t v := hval0
  have hW' := hW
  obtain ⟨p, q, hA0, hV, rfl, hfz, hnd⟩ := hW
  have hA : DataW.TrodAll enc Try.prog W 0 (fun _ => true) true Try.f9.params.toList args.toList ds p := hA0
  rw [Try.params9] at hA hval
  obtain ⟨v0, vs0, d0, ds0, p0, q0, hargs, rfl, rfl, h0, r0⟩ := trodAll_cons hA
  obtain ⟨v1, vs1, d1, ds1, p1, q1, rfl, rfl, rfl, h1, r1⟩ := trodAll_cons r0
  obtain ⟨rfl, rfl, rfl⟩ := trodAll_nil r1
  obtain rfl : args = #[v0, v1] := by cases args; simp_all
  obtain ⟨rfl, rfl⟩ := trodVars_none hV
  obtain ⟨a0, len0, cap0, rfl⟩ := okWide_slice Try.underlying22 (hval 0 22 v0 rfl rfl)
  have k0 := h0
  have lt0 : ∀ x ∈ p0, x.block < W.heap.size := by obtain ⟨m, hm⟩ := k0; exact DataW.trod_lt m _ _ _ hm
  obtain ⟨l0, w0⟩ := reqs_open h0
  obtain ⟨a1, rfl, rfl, rfl, w1⟩ := open_int Try.underlying3 (hval 1 3 v1 rfl rfl) h1
  clear hA0 hval0
  refine (walk (.slice a0 len0 cap0) l0 a1 W w0 w1).mono fun e W' ⟨he, bel⟩ => ?_
  subst he
  exact ⟨_, rfl, _, _, _, [], _, [], hW', trodAll_mk1 (shut_bool Try.underlying4 _), (trodAll_cons_mk (Below.trod laidOut (by kernel_rfl) (of_decide_eq_true (by kernel_rfl)) k0 bel lt0) (trodAll_cons_mk (shut_int Try.underlying3 w1) trodAll_mk0)), rfl, bel.frame _, fun h => by cases h⟩

theorem over : Rows.storeCopiesRow.holds Try.pinned (OpenSpec.ofChange Rows.storeCopiesSpec) :=
  OpenClaim.holds_of_wide 9 Try.f9 rfl rfl rfl rfl rfl rfl rfl ⟨rfl, rfl, rfl, rfl, rfl⟩ rfl rfl rfl rfl rfl (by kernel_rfl) Try.func9 (by kernel_rfl)
    (of_decide_eq_true (by kernel_rfl)) (by unfold Func.isWrapper; first | (rw [if_pos (by decide +kernel)]; kernel_rfl) | (rw [if_neg (by decide +kernel)]; exact ⟨rfl, rfl⟩))
    (fun os started H enc _ => lifted os started H enc)
end Go.Proofs.Yticokpaegadbbaa.StoreCopies

namespace Go.Proofs.Yticokpaegadbbaa
theorem storeCopies_holds : Rows.StoreCopiesSaid := StoreCopies.over
#print axioms storeCopies_holds
end Go.Proofs.Yticokpaegadbbaa
