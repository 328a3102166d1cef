/-
  THE REFERENCE's WATCH: its block and its row; NewWatch, Heard, There, Gone. No condition but that a time is a number of its kind.
-/
import Derived.Test.YtomjlhmkmihbeaaWatT
import Derived.Test.YtomjlhmkmihbeaaClockV
import Derived.Test.YtomjlhmkmihbeaaGrantX
namespace Go.Proofs.Ytomjlhmkmihbeaa
open Go.RowKit

/-- Block rb is the reference's watch, from block m on. -/
structure RWat (w : World) (m rb ab n s c : Nat) (f : Nat → Nat) : Prop where
  blk : w.heap[rb]? = some (.cells #[.int .i64 n, .int .i64 s, .slice (some ⟨ab, 0, none⟩) n c] 87 (0, 0))
  row : RowX w ab n f
  low : m ≤ rb ∧ m ≤ ab
  pos : 0 < n
  le : n ≤ 5
section
variable {w w' : World} {m rb ab n s c : Nat} {f : Nat → Nat}
theorem RWat.lt (H : RWat w m rb ab n s c f) : rb < w.heap.size ∧ ab < w.heap.size := ⟨lt_of_block H.blk, H.row.lt⟩
theorem RWat.cells (H : RWat w m rb ab n s c f) : w.cell? ⟨rb, 0, none⟩ = some (.int .i64 n) ∧ w.cell? ⟨rb, 1, none⟩ = some (.int .i64 s) ∧ w.cell? ⟨rb, 2, none⟩ = some (.slice (some ⟨ab, 0, none⟩) n c) := by
  have H' := H.blk
  refine ⟨?_, ?_, ?_⟩ <;> (rw [cell_of_row _ _ _ _ _ _ H']; rfl)
theorem RWat.ne (H : RWat w m rb ab n s c f) : rb ≠ ab := fun e => by
  obtain ⟨cur, h, _⟩ := H.row
  have := H.blk.symm.trans (e ▸ h)
  simp at this
theorem RWat.keep {S : Nat → Prop} (H : RWat w m rb ab n s c f) (ho : Only S w w') (h1 : ¬ S rb) (h2 : ¬ S ab) : RWat w' m rb ab n s c f :=
  ⟨(ho.block rb H.lt.1 h1).trans H.blk, H.row.keep ho h2, H.low, H.pos, H.le⟩
theorem RWat.on (H : RWat w m rb ab n s c f) (hb : Below w.heap.size w w') : RWat w' m rb ab n s c f := H.keep (S := fun _ => False) (.of hb) (fun h => h) (fun h => h)
theorem RWat.set (H : RWat w m rb ab n s c f) (k v : Nat) : RWat (w.setCell ⟨ab, k, none⟩ (.int .i64 (v : Nat))) m rb ab n s c (upF f k v) :=
  ⟨(Below.heap_setCell _ _ _ rb H.ne).trans H.blk, H.row.set k v, H.low, H.pos, H.le⟩
end

theorem upF_self (f : Nat → Nat) (k : Nat) : upF f k (f k) = f := by funext j; unfold upF; split <;> simp_all

set_option maxRecDepth 100000 in
set_option maxHeartbeats 1000000 in
theorem qwthere_r {w : World} {m rb ab n s c : Nat} {f : Nat → Nat} (H : RWat w m rb ab n s c f) (t k : Int) (ht : Top t) {R : Bool} (hR : isT n s f t k = R) :
    Calls Try.prog 34 #[.pointer (some ⟨rb, 0, none⟩), .int .i64 t, .int .i64 k] w fun e w' => e = .returned (.bool R) ∧ w = w' := by
  obtain ⟨c0, c1, c2⟩ := H.cells
  by_cases h0 : k < 0
  · have HX : Hid (R = false) := by show _ = _; rw [← hR]; exact decide_eq_false (by omega)
    clear hR H
    go_enter Try.func34, Try.ntmps34
    go_wp2
    go_returns
    exact ⟨ret_bool HX.out.symm, rfl⟩
  · by_cases hn : (n : Int) ≤ k
    · have HX : Hid (R = false) := by show _ = _; rw [← hR]; exact decide_eq_false (by omega)
      clear hR H
      go_enter Try.func34, Try.ntmps34
      go_wp2
      go_returns
      exact ⟨ret_bool HX.out.symm, rfl⟩
    · obtain ⟨j, rfl⟩ : ∃ j : Nat, k = j := ⟨k.toNat, by omega⟩
      have hj : j < n := by omega
      have hj' : (j : Int) < (n : Int) := by omega
      have j0 : (0 : Int) ≤ (j : Int) := by omega
      obtain ⟨d0, _⟩ := H.row.cell hj
      have HV : Hid (R = decide ((j : Int) = (s : Int) ∨ t < (f j : Int) + 12)) := by
        show _ = _
        rw [← hR]
        unfold isT
        rw [show ((j : Int)).toNat = j by omega]
        exact decide_eq_decide.2 ⟨fun h => h.2, fun h => ⟨⟨j0, hj'⟩, h⟩⟩
      clear hR H h0 hn
      generalize f j = fm at *
      by_cases hs : (j : Int) = (s : Int)
      · have hs' : ((j : Int) == (s : Int)) = true := by simpa using hs
        have HX : Hid (R = true) := by show _ = _; rw [HV.out]; exact decide_eq_true (.inl hs)
        clear hs
        go_enter Try.func34, Try.ntmps34
        go_wp2
        go_returns
        exact ⟨ret_bool (by first | exact HX.out.symm | (rw [HX.out]; simp_all)), rfl⟩
      · have hs' : ((j : Int) == (s : Int)) = false := by simpa using hs
        by_cases ht1 : t ≤ (fm : Int)
        · have HX : Hid (R = true) := by show _ = _; rw [HV.out]; exact decide_eq_true (.inr (by omega))
          clear hs
          go_enter Try.func34, Try.ntmps34
          go_wp2
          go_returns
          exact ⟨ret_bool (by first | exact HX.out.symm | (rw [HX.out]; simp_all)), rfl⟩
        · have hsub := sub_in ht (show (0 : Int) ≤ (fm : Int) by omega) (show (fm : Int) ≤ t by omega)
          by_cases ht2 : t - (fm : Int) < 12
          · have HX : Hid (R = true) := by show _ = _; rw [HV.out]; exact decide_eq_true (.inr (by omega))
            clear hs
            go_enter Try.func34, Try.ntmps34
            go_wp2
            go_returns
            exact ⟨ret_bool (by first | exact HX.out.symm | (rw [HX.out]; simp_all)), rfl⟩
          · have HX : Hid (R = false) := by show _ = _; rw [HV.out]; exact decide_eq_false (by omega)
            clear hs
            go_enter Try.func34, Try.ntmps34
            go_wp2
            go_returns
            exact ⟨ret_bool (by first | exact HX.out.symm | (rw [HX.out]; simp_all)), rfl⟩

set_option maxRecDepth 100000 in
set_option maxHeartbeats 1000000 in
theorem qwheard_r {w : World} {m rb ab n s c : Nat} {f : Nat → Nat} (H : RWat w m rb ab n s c f) (t k : Int) :
    Calls Try.prog 29 #[.pointer (some ⟨rb, 0, none⟩), .int .i64 t, .int .i64 k] w fun e w' => e = .returned (.tuple #[]) ∧ RWat w' m rb ab n s c (hearV n f t k) ∧ Only (· = ab) w w' := by
  obtain ⟨c0, c1, c2⟩ := H.cells
  by_cases h0 : k < 0
  · have hv : hearV n f t k = f := by unfold hearV; rw [if_neg (by omega)]
    rw [hv]
    have H' := Lib.hid H
    clear H hv
    go_enter Try.func29, Try.ntmps29
    go_wp2
    go_returns
    exact ⟨rfl, H'.out, .refl _ _⟩
  · by_cases hn : (n : Int) ≤ k
    · have hv : hearV n f t k = f := by unfold hearV; rw [if_neg (by omega)]
      rw [hv]
      have H' := Lib.hid H
      clear H hv
      go_enter Try.func29, Try.ntmps29
      go_wp2
      go_returns
      exact ⟨rfl, H'.out, .refl _ _⟩
    · obtain ⟨j, rfl⟩ : ∃ j : Nat, k = j := ⟨k.toNat, by omega⟩
      have hj : j < n := by omega
      have hj' : (j : Int) < (n : Int) := by omega
      have j0 : (0 : Int) ≤ (j : Int) := by omega
      obtain ⟨d0, z0⟩ := H.row.cell hj
      have hv : hearV n f t (j : Int) = upF f j (max (f j) t.toNat) := by
        unfold hearV
        rw [if_pos ⟨j0, hj'⟩, show ((j : Int)).toNat = j by omega]
      rw [hv]
      by_cases ht1 : ((f j : Nat) : Int) < t
      · have HS := Lib.hid (H.set j (max (f j) t.toNat))
        have HO := Lib.hid (Only.set ab j w (.int .i64 ((max (f j) t.toNat : Nat) : Int)))
        rw [show max (f j) t.toNat = t.toNat by omega] at HS HO ⊢
        rw [show ((t.toNat : Nat) : Int) = t by omega] at HS HO
        generalize f j = fj at d0 ht1
        clear H hv h0 hn
        go_enter Try.func29, Try.ntmps29
        go_wp2
        go_returns
        exact ⟨rfl, HS.out, HO.out⟩
      · rw [show max (f j) t.toNat = f j by omega, upF_self]
        have H' := Lib.hid H
        have ht2 : t ≤ ((f j : Nat) : Int) := by omega
        generalize f j = fj at d0 ht1 ht2
        clear H hv h0 hn
        go_enter Try.func29, Try.ntmps29
        go_wp2
        go_returns
        exact ⟨rfl, H'.out, .refl _ _⟩

set_option maxRecDepth 100000 in
set_option maxHeartbeats 2000000 in
theorem qwgone_r {w : World} {m rb ab n s c : Nat} {f : Nat → Nat} (H : RWat w m rb ab n s c f) (t : Int) (ht : Top t) :
    Calls Try.prog 32 #[.pointer (some ⟨rb, 0, none⟩), .int .i64 t] w fun e w' => ∃ v, e = .returned v ∧ w'.ownsRow w.heap.size 3 1 v (goneL n s f t).length (intCells (goneL n s f t)) ∧ Below w.heap.size w w' := by
  obtain ⟨i0, hi, hz0, hz1, hz2⟩ := info_parts info_intW
  have HH := Lib.hid H
  have H5 := Lib.hid H.le
  obtain ⟨q, hq⟩ : ∃ q, q = w.heap.size := ⟨_, rfl⟩
  rw [← hq]
  have HQ := Lib.hid hq
  clear H hq
  go_enter Try.func32, Try.ntmps32
  go_wp2_with fail
  go_loopw [5, 6] (fun s5 s6 wr => ∃ (k : Nat) (g cp : _), s5 = .slice g (goneN n s f t k).length cp ∧ s6 = .int .i64 k ∧ k ≤ n ∧ Hid (wr.ownsRow q 3 1 (.slice g (goneN n s f t k).length cp) (goneN n s f t k).length (intCells ((goneN n s f t k).map fun j : Nat => (j : Int)))) ∧ Hid (Below q w wr)) (fun _ s6 _ => n - (intOf s6).toNat)
  case atStart => exact ⟨0, none, 0, rfl, rfl, Nat.zero_le _, World.ownsRow_nil _ _ _ _, Below.refl _ _⟩
  case round =>
    obtain ⟨k, g, cp, rfl, rfl, hk, HR, HB⟩ := hrel
    have hsz := HB.out.size
    have hq' := HQ.out
    have hq2 : q ≤ wr.heap.size := by omega
    have HW : Hid (RWat wr m rb ab n s c f) := HH.out.on (by rw [← hq']; exact HB.out)
    obtain ⟨c0, _, _⟩ := HW.out.cells
    have hn5 := H5.out
    by_cases hlt : k < n
    · have k1 : (k : Int) < (n : Int) := by omega
      have hll : (goneN n s f t k).length ≤ 5 := Nat.le_trans (goneN_len n s f t k) (by omega)
      cases hT : isT n s f t (k : Int) with
      | true =>
        have HC := Lib.hid (qwthere_r HW.out t k ht hT)
        have e1 := goneN_no hT
        have HE := Lib.hid e1
        clear hT e1 hq'
        go_wp2_with fail
        refine HC.out.mono ?_
        rintro e w1 ⟨rfl, rfl⟩
        go_wp2
        go_roundw
        case rel => exact ⟨k + 1, g, cp, by rw [HE.out], by go_num, by omega, by rw [HE.out]; exact HR.out, HB.out⟩
        case measure => simp [intOf]; omega
      | false =>
        have HC := Lib.hid (qwthere_r HW.out t k ht hT)
        have HE := Lib.hid (goneN_yes hT)
        obtain ⟨L, hL⟩ : ∃ L, L = goneN n s f t k := ⟨_, rfl⟩
        rw [← hL] at HR HE hll ⊢
        obtain ⟨len, hlen⟩ : ∃ len, len = L.length := ⟨_, rfl⟩
        rw [← hlen] at HR hll ⊢
        have HLEN := Lib.hid hlen
        clear hT hq' hL hlen
        go_wp2_with fail
        refine HC.out.mono ?_
        rintro e w1 ⟨rfl, rfl⟩
        go_wp2_with (at_builtin; refine wpList_append_own_src rfl (.tmp 20) (.tmp 22) 41 41 rfl q 3 i0 (.int .i64 0) 1 8 Try.underlying41 hi hz0 hz1 hz2 rfl _ _ _ rfl (HR.out.alloc _) _ 1 (intCells [(k : Int)]) rfl (csrc1 wr _) ?c3 ?c4 ?c5 ?_)
        case c3 => unfold maxLen; omega
        case c4 => omega
        case c5 => simp; omega
        intro v2 w4 O2 G2
        obtain ⟨a2, c2, rfl⟩ := own_shape O2
        have hb2 : Below q w w4 := (HB.out.alloc hq2 _).grown G2 (by simp; omega) (fun y hy => (HR.out.lt y hy).1)
        have O2' := Lib.hid O2
        have HB2 := Lib.hid hb2
        clear O2 G2 hb2
        go_wp2_with fail
        go_roundw
        case rel =>
          refine ⟨k + 1, a2, c2, by rw [HE.out]; simp [HLEN.out], by go_num, by omega, ?_, HB2.out⟩
          have h := O2'.out
          rw [HLEN.out] at h
          show World.ownsRow _ _ _ _ _ _ _
          rw [HE.out, List.length_append, List.length_singleton, List.map_append, List.map_singleton, ← cells_app]
          exact h
        case measure => simp [intOf]; omega
    · obtain rfl : k = n := by omega
      clear hq'
      go_wp2
      go_returns
      exact ⟨_, rfl, by unfold goneL; simpa using HR.out, HB.out⟩

/-! ### NewWatch -/
set_option maxHeartbeats 800000 in
theorem qwnew_no (n s t : Int) (w : World) (hn : mayW n s t = false) : Calls Try.prog 26 #[.int .i64 n, .int .i64 s, .int .i64 t] w fun e w' => e = .returned (.pointer none) ∧ w = w' := by
  have hn' := of_decide_eq_false hn
  by_cases h : n < 1
  · clear hn hn'
    go_enter Try.func26, Try.ntmps26
    go_wp2
    go_returns
    exact ⟨rfl, rfl⟩
  · by_cases h9 : 5 < n
    · clear hn hn'
      go_enter Try.func26, Try.ntmps26
      go_wp2
      go_returns
      exact ⟨rfl, rfl⟩
    · by_cases hs0 : s < 0
      · clear hn hn'
        go_enter Try.func26, Try.ntmps26
        go_wp2
        go_returns
        exact ⟨rfl, rfl⟩
      · by_cases hs1 : n ≤ s
        · clear hn hn'
          go_enter Try.func26, Try.ntmps26
          go_wp2
          go_returns
          exact ⟨rfl, rfl⟩
        · by_cases ht : t < 0
          · clear hn hn'
            go_enter Try.func26, Try.ntmps26
            go_wp2
            go_returns
            exact ⟨rfl, rfl⟩
          · have hm : 1099511627776 < t := by omega
            clear hn hn'
            go_enter Try.func26, Try.ntmps26
            go_wp2
            go_returns
            exact ⟨rfl, rfl⟩

/-- The reference's watch while it is made. -/
structure NWat (w : World) (n s t i : Nat) (a : Option Addr) (c : Nat) (u : World) : Prop where
  bel : Below w.heap.size w u
  blk : u.heap[w.heap.size]? = some (.cells #[.int .i64 n, .int .i64 s, .slice a i c] 87 (0, 0))
  row : u.ownsRow (w.heap.size + 1) 3 1 (.slice a i c) i (intCells (List.replicate i (t : Int)))
theorem NWat.cells {w u : World} {n s t i : Nat} {a : Option Addr} {c : Nat} (h : NWat w n s t i a c u) : u.cell? ⟨w.heap.size, 2, none⟩ = some (.slice a i c) ∧ u.frozen? ⟨w.heap.size, 2, none⟩ = false ∧ w.heap.size < u.heap.size := by
  have H' := h.blk
  exact ⟨by rw [cell_of_row _ _ _ _ _ _ H']; rfl, by simp [World.frozen?, H'], lt_of_block H'⟩

set_option maxRecDepth 100000 in
set_option maxHeartbeats 2000000 in
theorem qwnew_yes (n s t : Nat) (w : World) (h0 : 0 < n) (h5 : n ≤ 5) (hs : s < n) (ht : t ≤ 1099511627776) :
    Calls Try.prog 26 #[.int .i64 n, .int .i64 s, .int .i64 t] w fun e w' => ∃ ab c, e = .returned (.pointer (some ⟨w.heap.size, 0, none⟩)) ∧ RWat w' w.heap.size w.heap.size ab n s c (wtOf t n) ∧ Below w.heap.size w w' := by
  obtain ⟨i0, hi, hz0, hz1, hz2⟩ := info_parts info_intW
  have a1 : ¬ (n : Int) < 1 := by omega
  have a5 : ¬ 5 < (n : Int) := by omega
  have s0 : ¬ (s : Int) < 0 := by omega
  have s1 : ¬ (n : Int) ≤ (s : Int) := by omega
  have t0 : ¬ (t : Int) < 0 := by omega
  have t1 : ¬ 1099511627776 < (t : Int) := by omega
  have HS : Hid (NWat w n s t 0 none 0 (w.alloc (.cells #[.int .i64 n, .int .i64 s, .slice none 0 0] 87))) := ⟨(Below.refl _ _).alloc (Nat.le_refl _) _, heap_alloc_new w _, World.ownsRow_nil _ _ _ _⟩
  have H05 := Lib.hid (And.intro h0 h5)
  clear h0 h5 ht hs
  go_enter Try.func26, Try.ntmps26
  go_wp2_with fail
  go_loopw [8] (fun s8 wr => ∃ (k : Nat) (a : Option Addr) (c : Nat), k ≤ n ∧ s8 = .int .i64 k ∧ Hid (NWat w n s t k a c wr)) (fun s8 _ => n - (intOf s8).toNat)
  case atStart => exact ⟨0, none, 0, Nat.zero_le _, rfl, HS.out⟩
  case round =>
    clear HS
    obtain ⟨k, a, c, hk, rfl, HK⟩ := hrel
    have k5 := H05.out.2
    by_cases hlt : k < n
    · have k1 : (k : Int) < (n : Int) := by omega
      obtain ⟨c0, f0, hsz⟩ := HK.out.cells
      go_wp2_with (at_builtin; refine wpList_append_own_src rfl (.tmp 45) (.tmp 47) 41 41 rfl (w.heap.size + 1) 3 i0 (.int .i64 0) 1 8 Try.underlying41 hi hz0 hz1 hz2 rfl _ _ _ rfl (HK.out.row.alloc _) _ 1 (intCells [(t : Int)]) rfl (csrc1 wr _) ?c3 ?c4 ?c5 ?_)
      case c3 => unfold maxLen; omega
      case c4 => omega
      case c5 => simp; omega
      intro v2 w4 O2 G2
      obtain ⟨a2, c2, rfl⟩ := own_shape O2
      have hown : ∀ y, Value.ownBlock (.slice a k c) = some y → w.heap.size + 1 ≤ y := fun y hy => (HK.out.row.lt y hy).1
      have hb2 : Below w.heap.size w w4 := (HK.out.bel.alloc (by omega) _).grown G2 (by simp; omega) (fun y hy => by have := hown y hy; omega)
      have q1 : w4.heap[w.heap.size]? = some (.cells #[.int .i64 n, .int .i64 s, .slice a k c] 87 (0, 0)) :=
        (G2.block _ (by simp; omega) (fun e => by have := hown _ e.symm; omega)).trans ((((Below.refl _ wr).alloc (Nat.le_refl _) _).block _ hsz).trans HK.out.blk)
      have O2' := Lib.hid O2
      have Q1 := Lib.hid q1
      have HB2 := Lib.hid hb2
      clear c0 f0 O2 G2 hown hb2
      have c0 : w4.cell? ⟨w.heap.size, 2, none⟩ = some (.slice a k c) := by rw [cell_of_row _ _ _ _ _ _ q1]; rfl
      have f0 : w4.frozen? ⟨w.heap.size, 2, none⟩ = false := by simp [World.frozen?, q1]
      clear q1
      go_wp2_with fail
      go_roundw
      case rel =>
        have o1 := Only.set w.heap.size 2 w4 (.slice a2 (k + 1) c2)
        refine ⟨k + 1, a2, c2, by omega, by go_num, o1.below HB2.out (fun x hx => by omega) HB2.out.size, ?_, ?_⟩
        · show _ = _
          rw [heap_setCell_same _ _ _ _ _ _ Q1.out]
          rfl
        · rw [List.replicate_succ', ← cells_app]
          exact own_only O2'.out o1 (by omega)
      case measure => simp [intOf]; omega
    · obtain rfl : k = n := by omega
      have h0 := H05.out.1
      obtain ⟨g, cp, hg⟩ : ∃ g cp, Value.slice a k c = .slice (some ⟨g, 0, none⟩) k cp := by
        obtain ⟨m, hm⟩ : ∃ m, k = m + 1 := ⟨k - 1, by omega⟩
        have hr := HK.out.row
        rw [hm] at hr ⊢
        exact ownsRow_succ hr
      simp only [Value.slice.injEq] at hg
      obtain ⟨rfl, _, rfl⟩ := hg
      have hx : RowX wr g k (wtOf t k) := RowX.own HK.out.row (fun j hj => by simp [hj, wtOf])
      have hg1 : w.heap.size + 1 ≤ g := (HK.out.row.lt g rfl).1
      have HZ : Hid (RWat wr w.heap.size w.heap.size g k s c (wtOf t k)) := ⟨HK.out.blk, hx, ⟨Nat.le_refl _, by omega⟩, h0, k5⟩
      have HB := Lib.hid HK.out.bel
      clear hx hg1 HK
      go_wp2
      go_returns
      exact ⟨_, _, rfl, HZ.out, HB.out⟩
end Go.Proofs.Ytomjlhmkmihbeaa
