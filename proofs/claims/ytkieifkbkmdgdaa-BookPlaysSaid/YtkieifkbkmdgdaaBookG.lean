/-
  THE REFERENCE's TABLE: Get, From, Back. Of at most five thousand keys.
-/
import Derived.Test.YtkieifkbkmdgdaaBookR
namespace Go.Proofs.Ytkieifkbkmdgdaa
open Go.RowKit

set_option maxHeartbeats 2000000 in
theorem rbget_try (n R : Nat) (L : List (Int × Int)) (key : Int) (w : World) (h : RB n w R L) (hl : L.length ≤ 5000) :
    Calls Try.prog 13 #[.pointer (some ⟨R, 0, none⟩), .int .i64 key] w fun e w' => (∃ i, AtR key (keysL L) i ∧ ((i < L.length ∧ (keysL L).getD i 0 = key ∧ e = .returned (.tuple #[.int .i64 ((valsL L).getD i 0), .bool true])) ∨ ((i < L.length → (keysL L).getD i 0 ≠ key) ∧ e = .returned (.tuple #[.int .i64 0, .bool false])))) ∧ ∃ q, w' = w.drewN q := by
  have KA := Lib.hid (at_any n R L key w h hl)
  obtain ⟨vk, vv, h1, h2, h3, h4, h5⟩ := h
  obtain ⟨ak, ck, rfl, hck, _⟩ := row_of h3
  obtain ⟨av, cv, rfl, hcv, _⟩ := row_of h4
  have c0 : w.cell? ⟨R, 0, none⟩ = some (.slice ak L.length ck) := by simp [World.cell?, h1]
  have c1 : w.cell? ⟨R, 1, none⟩ = some (.slice av L.length cv) := by simp [World.cell?, h1]
  obtain ⟨m, hm⟩ : ∃ m, m = L.length := ⟨_, rfl⟩
  rw [← hm] at h3 h4 c0 c1 hck hcv hl ⊢
  have H3 := Lib.hid h3
  have H4 := Lib.hid h4
  clear h1 h2 h3 h4 h5 hm
  go_enter Try.func13, Try.ntmps13
  go_wp2_with fail
  refine KA.out.mono ?_
  rintro e w1 ⟨⟨i, rfl, hi⟩, q, rfl⟩
  have HI' := Lib.hid hi
  clear hi
  by_cases hlt : i < m
  · obtain ⟨g, rfl, _, _, _, hcell⟩ := row_at H3.out (by omega)
    obtain ⟨gv, rfl, _, _, _, hcellv⟩ := row_at H4.out (by omega)
    obtain ⟨x, hx⟩ : ∃ x, x = (keysL L).getD i 0 := ⟨_, rfl⟩
    obtain ⟨y, hy⟩ : ∃ y, y = (valsL L).getD i 0 := ⟨_, rfl⟩
    have cx : w.cell? ⟨g, i, none⟩ = some (.int .i64 x) := by rw [hx]; exact (hcell i hlt).1
    have cy : w.cell? ⟨gv, i, none⟩ = some (.int .i64 y) := by rw [hy]; exact (hcellv i hlt).1
    have HX := Lib.hid hx
    have HY := Lib.hid hy
    have HLT := Lib.hid hlt
    have i0 : (0 : Int) ≤ (i : Int) := by omega
    have i1 : (i : Int) < (m : Int) := by omega
    clear hx hy hcell hcellv
    by_cases hk : x = key
    · have HK := Lib.hid hk
      subst hk
      go_wp2
      go_returns
      exact ⟨⟨i, HI'.out, .inl ⟨HLT.out, HX.out.symm, by rw [← HY.out]; rfl⟩⟩, q, rfl⟩
    · have hb : (x == key) = false := beq_eq_false_iff_ne.2 hk
      have HK := Lib.hid hk
      clear hk
      go_wp2
      go_returns
      exact ⟨⟨i, HI'.out, .inr ⟨fun _ => by rw [← HX.out]; exact HK.out, rfl⟩⟩, q, rfl⟩
  · have hle : (m : Int) ≤ (i : Int) := by omega
    have HLT := Lib.hid hlt
    clear hlt
    go_wp2
    go_returns
    exact ⟨⟨i, HI'.out, .inr ⟨fun h => absurd h HLT.out, rfl⟩⟩, q, rfl⟩

set_option maxHeartbeats 2000000 in
theorem rbfrom_try (n R : Nat) (L : List (Int × Int)) (key lim : Int) (w : World) (h : RB n w R L) (hl : L.length ≤ 5000) :
    Calls Try.prog 16 #[.pointer (some ⟨R, 0, none⟩), .int .i64 key, .int .i64 lim] w fun e w' => ∃ i, AtR key (keysL L) i ∧ TellsL (((keysL L).drop i).take lim.toNat) w e w' := by
  have KA := Lib.hid (at_any n R L key w h hl)
  obtain ⟨i0, hi0, hz0, hz1, hz2⟩ := info_parts info_int6
  obtain ⟨vk, vv, h1, h2, h3, h4, h5⟩ := h
  obtain ⟨ak, ck, rfl, hck, _⟩ := row_of h3
  have c0 : w.cell? ⟨R, 0, none⟩ = some (.slice ak L.length ck) := by simp [World.cell?, h1]
  have hRl := lt_of_block h1
  obtain ⟨X, hX⟩ : ∃ X, X = keysL L := ⟨_, rfl⟩
  obtain ⟨m, hm⟩ : ∃ m, m = L.length := ⟨_, rfl⟩
  have hXm : X.length = m := by rw [hX, hm]; simp [keysL]
  rw [← hX] at h3 KA ⊢
  rw [← hm] at h3 c0 hck hl
  have H3 := Lib.hid h3
  have HXM := Lib.hid hXm
  clear h1 h2 h3 h4 h5 hm hX hXm
  go_enter Try.func16, Try.ntmps16
  go_wp2_with fail
  refine KA.out.mono ?_
  rintro e w1 ⟨⟨i, rfl, hi⟩, q, hw⟩
  have HI' := Lib.hid hi
  have HB1 : Hid (Below w.heap.size w w1) := by show Below _ _ _; rw [hw]; exact below_drew (Below.refl _ _) q
  have H31 : Hid (w1.ownsRow n 3 1 (.slice ak m ck) m (intCells X)) := row_only H3.out (by rw [hw]; exact Only.drewN (fun _ => False) _ _) fun _ _ => id
  have d0 : w1.cell? ⟨R, 0, none⟩ = some (.slice ak m ck) := by rw [hw]; exact c0
  have hRl1 : R < w1.heap.size := by rw [hw]; exact hRl
  have him : i ≤ m := by have := hi.1; have := HXM.out; omega
  clear hi hw c0 hRl
  have hiX : (X.drop i).length = m - i := by have := HXM.out; simp; omega
  have HDX := Lib.hid hiX
  clear hiX
  go_wp2_with fail
  go_loopw [7, 8] (fun vo vi wr => ∃ (f : Nat) (a : Option Addr) (c : Nat), i + f ≤ m ∧ f ≤ lim.toNat ∧ vi = .int .i64 ((i + f : Nat) : Int) ∧ vo = .slice a f c ∧ wr.ownsRow w1.heap.size 3 1 (.slice a f c) f (intCells ((X.drop i).take f)) ∧ Below w1.heap.size w1 wr) (fun _ vi _ => 10000 - (intOf vi).toNat)
  case atStart => exact ⟨0, none, 0, by omega, by omega, rfl, rfl, by simpa [intCells] using World.ownsRow_nil _ _ _ _, Below.refl _ _⟩
  case round =>
    obtain ⟨f, a, c, hf1, hf2, rfl, rfl, hrow, hbel⟩ := hrel
    have HB := Lib.hid hbel
    have HR := Lib.hid hrow
    have e0 : wr.cell? ⟨R, 0, none⟩ = some (.slice ak m ck) := (hbel.cell (p := ⟨R, 0, none⟩) hRl1).trans d0
    have HF := Lib.hid hf2
    clear hrow hf2
    by_cases hlt : i + f < m
    · by_cases hlim : (f : Int) < lim
      · have HLIM := Lib.hid hlim
        obtain ⟨g, rfl, _, hgl, _, hcell⟩ := row_at H31.out (by omega)
        obtain ⟨x, hx⟩ : ∃ x, x = X.getD (i + f) 0 := ⟨_, rfl⟩
        have cx : wr.cell? ⟨g, i + f, none⟩ = some (.int .i64 x) := by rw [hx]; exact (hbel.cell (p := ⟨g, i + f, none⟩) hgl).trans (hcell (i + f) hlt).1
        have HE : Hid ((X.drop i).take (f + 1) = (X.drop i).take f ++ [x]) := by
          show _ = _
          rw [hx, take_snoc _ f (by rw [HDX.out]; omega)]
          simp [List.getD]
        have k0 : (0 : Int) ≤ (i : Int) + (f : Int) := by omega
        have k1 : (i : Int) + (f : Int) < (m : Int) := by omega
        have t1 : ((i : Int) + (f : Int)).toNat = i + f := by omega
        clear hx hcell hbel
        go_wp2_with (at_builtin; refine wpList_append_own_src rfl (.tmp 27) (.tmp 35) 26 26 rfl w1.heap.size 3 i0 (.int .i64 0) 1 8 Try.underlying26 hi0 hz0 hz1 hz2 rfl _ _ _ rfl (HR.out.alloc _) _ 1 [Value.int .i64 x] rfl (src_one_int wr _ _ rfl) ?c3 ?c4 ?c5 ?_)
        case c3 => unfold maxLen; omega
        case c4 => omega
        case c5 => have := HB.out.size; simp; omega
        intro v' w2 hown' hgrow
        obtain ⟨a', c', rfl⟩ := own_shape hown'
        have HO := Lib.hid hown'
        have HB2 : Hid (Below w1.heap.size w1 w2) := (HB.out.alloc HB.out.size _).grown hgrow (by have := HB.out.size; simp; omega) (fun j hj => (HR.out.lt j hj).1)
        clear hown' hgrow
        go_wp2
        go_roundw
        case rel =>
          refine ⟨f + 1, a', c', by omega, by have := HLIM.out; omega, by go_num, rfl, ?_, HB2.out⟩
          have h := HO.out
          rw [HE.out]
          simpa [intCells] using h
        case measure => simp [intOf]; omega
      · have hlim' : lim ≤ (f : Int) := by omega
        have HLIM := Lib.hid hlim'
        clear hlim hbel
        go_wp2
        go_returns
        have hfl : f = ((X.drop i).take lim.toNat).length := by
          rw [List.length_take, HDX.out]
          have := HF.out; have := HLIM.out; omega
        have hfe : (X.drop i).take f = (X.drop i).take lim.toNat := by
          have := HF.out; have := HLIM.out
          rw [show f = lim.toNat by omega]
        refine ⟨i, HI'.out, a, c, by rw [← hfl]; rfl, ?_, HB1.out.trans (HB.out.mono HB1.out.size)⟩
        rw [← hfl, ← hfe]
        exact ints_own HR.out (Nat.le_refl _)
    · clear hbel
      have hle : (m : Int) ≤ (i : Int) + (f : Int) := by omega
      have HLE := Lib.hid hlt
      clear hlt
      go_wp2
      go_returns
      have hfl : f = ((X.drop i).take lim.toNat).length := by
        rw [List.length_take, HDX.out]
        have := HF.out; have := HLE.out; omega
      have hfe : (X.drop i).take f = (X.drop i).take lim.toNat := by
        have := HF.out; have := HLE.out
        rw [List.take_of_length_le (by rw [HDX.out]; omega), List.take_of_length_le (by rw [HDX.out]; omega)]
      refine ⟨i, HI'.out, a, c, by rw [← hfl]; rfl, ?_, HB1.out.trans (HB.out.mono HB1.out.size)⟩
      rw [← hfl, ← hfe]
      exact ints_own HR.out (Nat.le_refl _)

set_option maxHeartbeats 2000000 in
theorem rbback_try (n R : Nat) (L : List (Int × Int)) (key lim : Int) (w : World) (h : RB n w R L) (hl : L.length ≤ 5000) :
    Calls Try.prog 18 #[.pointer (some ⟨R, 0, none⟩), .int .i64 key, .int .i64 lim] w (TellsL (((keysL L).reverse.filter fun x => decide (x ≤ key)).take lim.toNat) w) := by
  obtain ⟨i0, hi0, hz0, hz1, hz2⟩ := info_parts info_int6
  obtain ⟨vk, vv, h1, h2, h3, h4, h5⟩ := h
  obtain ⟨ak, ck, rfl, hck, _⟩ := row_of h3
  have c0 : w.cell? ⟨R, 0, none⟩ = some (.slice ak L.length ck) := by simp [World.cell?, h1]
  have hRl := lt_of_block h1
  obtain ⟨X, hX⟩ : ∃ X, X = keysL L := ⟨_, rfl⟩
  obtain ⟨m, hm⟩ : ∃ m, m = L.length := ⟨_, rfl⟩
  have hXm : X.length = m := by rw [hX, hm]; simp [keysL]
  rw [← hX] at h3 ⊢
  rw [← hm] at h3 c0 hck hl
  have H3 := Lib.hid h3
  have HXM := Lib.hid hXm
  have sm : IntKind.i64.wrap ((m : Int) - 1) = (m : Int) - 1 := IntWalk.i64_in _ (by omega)
  clear h1 h2 h3 h4 h5 hm hX hXm
  go_enter Try.func18, Try.ntmps18
  go_wp2_with fail
  go_loopw [7, 8] (fun vo vi wr => ∃ (t f : Nat) (a : Option Addr) (c : Nat), t ≤ m ∧ f ≤ m ∧ f ≤ lim.toNat ∧ vi = .int .i64 ((t : Int) - 1) ∧ vo = .slice a f c ∧ Hid (f = ((X.drop t).reverse.filter fun x => decide (x ≤ key)).length) ∧ wr.ownsRow w.heap.size 3 1 (.slice a f c) f (intCells ((X.drop t).reverse.filter fun x => decide (x ≤ key))) ∧ Below w.heap.size w wr) (fun _ vi _ => (intOf vi + 1).toNat)
  case atStart => exact ⟨m, 0, none, 0, Nat.le_refl _, by omega, by omega, rfl, rfl, (show _ = _ by rw [List.drop_of_length_le (by rw [HXM.out]; omega)]; rfl), by rw [List.drop_of_length_le (by rw [HXM.out]; omega)]; exact World.ownsRow_nil _ _ _ _, Below.refl _ _⟩
  case round =>
    obtain ⟨t, f, a, c, ht, hfm, hf2, rfl, rfl, HN, hrow, hbel⟩ := hrel
    have HB := Lib.hid hbel
    have HR := Lib.hid hrow
    have e0 : wr.cell? ⟨R, 0, none⟩ = some (.slice ak m ck) := (hbel.cell (p := ⟨R, 0, none⟩) hRl).trans c0
    have HF := Lib.hid hf2
    have HSP : Hid (X.reverse = (X.drop t).reverse ++ (X.take t).reverse) := by
      show _ = _
      conv => lhs; rw [← List.take_append_drop t X]
      rw [List.reverse_append]
    clear hrow hf2
    by_cases h0 : 0 < t
    · by_cases hlim : (f : Int) < lim
      · have HLIM := Lib.hid hlim
        obtain ⟨p, rfl⟩ : ∃ p, t = p + 1 := ⟨t - 1, by omega⟩
        obtain ⟨g, rfl, _, hgl, _, hcell⟩ := row_at H3.out (by omega)
        obtain ⟨x, hx⟩ : ∃ x, x = X.getD p 0 := ⟨_, rfl⟩
        have cx : wr.cell? ⟨g, p, none⟩ = some (.int .i64 x) := by rw [hx]; exact (hbel.cell (p := ⟨g, p, none⟩) hgl).trans (hcell p (by omega)).1
        have HE0 : Hid ((X.drop p).reverse = (X.drop (p + 1)).reverse ++ [x]) := by
          show _ = _
          have hpl : p < X.length := by rw [HXM.out]; omega
          rw [List.drop_eq_getElem_cons hpl, List.reverse_cons, hx]
          simp [List.getD, hpl]
        have se : (((p + 1 : Nat) : Int) - 1) = (p : Int) := by omega
        have sw : IntKind.i64.wrap ((p : Int) - 1) = (p : Int) - 1 := IntWalk.i64_in _ (by omega)
        have k0 : (0 : Int) ≤ (p : Int) := by omega
        have k1 : (p : Int) < (m : Int) := by omega
        rw [se]
        have HT := Lib.hid ht
        clear hx hcell hbel ht h0 se
        by_cases hk : x ≤ key
        · have HE : Hid (((X.drop p).reverse.filter fun x => decide (x ≤ key)) = ((X.drop (p + 1)).reverse.filter fun x => decide (x ≤ key)) ++ [x]) := by
            show _ = _
            rw [HE0.out, List.filter_append, List.filter_cons_of_pos (by simpa using hk)]
            rfl
          go_wp2_with (at_builtin; refine wpList_append_own_src rfl (.tmp 34) (.tmp 42) 26 26 rfl w.heap.size 3 i0 (.int .i64 0) 1 8 Try.underlying26 hi0 hz0 hz1 hz2 rfl _ _ _ rfl (HR.out.alloc _) _ 1 [Value.int .i64 x] rfl (src_one_int wr _ _ rfl) ?c3 ?c4 ?c5 ?_)
          case c3 => unfold maxLen; omega
          case c4 => omega
          case c5 => have := HB.out.size; simp; omega
          intro v' w2 hown' hgrow
          obtain ⟨a', c', rfl⟩ := own_shape hown'
          have HO := Lib.hid hown'
          have HB2 : Hid (Below w.heap.size w w2) := (HB.out.alloc HB.out.size _).grown hgrow (by have := HB.out.size; simp; omega) (fun j hj => (HR.out.lt j hj).1)
          clear hown' hgrow
          have HN2 : Hid (f + 1 = ((X.drop p).reverse.filter fun x => decide (x ≤ key)).length) := by show _ = _; rw [HE.out, List.length_append, ← HN.out]; rfl
          have hfm2 : f + 1 ≤ m := by
            have h1 := HN2.out
            have h2 : ((X.drop p).reverse.filter fun x => decide (x ≤ key)).length ≤ (X.drop p).reverse.length := List.length_filter_le _ _
            rw [List.length_reverse, List.length_drop, HXM.out] at h2
            omega
          go_wp2
          go_roundw
          case rel =>
            refine ⟨p, f + 1, a', c', by have := HT.out; omega, hfm2, by have := HLIM.out; omega, rfl, rfl, HN2.out, ?_, HB2.out⟩
            have h := HO.out
            rw [HE.out]
            simpa [intCells] using h
          case measure => simp [intOf] <;> omega
        · have HE : Hid (((X.drop p).reverse.filter fun x => decide (x ≤ key)) = ((X.drop (p + 1)).reverse.filter fun x => decide (x ≤ key))) := by
            show _ = _
            rw [HE0.out, List.filter_append, List.filter_cons_of_neg (by simpa using hk)]
            simp
          have hk' : key < x := by omega
          clear hk
          go_wp2
          go_roundw
          case rel => exact ⟨p, f, a, c, by have := HT.out; omega, hfm, HF.out, rfl, rfl, (show _ = _ by rw [HE.out]; exact HN.out), by rw [HE.out]; exact HR.out, HB.out⟩
          case measure => simp [intOf] <;> omega
      · have hlim' : lim ≤ (f : Int) := by omega
        have HLIM := Lib.hid hlim'
        have ht1 : (0 : Int) ≤ (t : Int) - 1 := by omega
        clear hlim hbel
        go_wp2
        go_returns
        have hfe : (X.drop t).reverse.filter (fun x => decide (x ≤ key)) = (X.reverse.filter fun x => decide (x ≤ key)).take lim.toNat := by
          have h1 := HF.out; have h2 := HLIM.out; have h3 := HN.out
          rw [HSP.out, List.filter_append, List.take_append_of_le_length (by omega), List.take_of_length_le (by omega)]
        have hfl : f = ((X.reverse.filter fun x => decide (x ≤ key)).take lim.toNat).length := by rw [← hfe]; exact HN.out
        refine ⟨a, c, by rw [← hfl]; rfl, ?_, HB.out⟩
        rw [← hfl, ← hfe]
        exact ints_own HR.out (Nat.le_refl _)
    · obtain rfl : t = 0 := by omega
      clear hbel h0 ht
      go_wp2
      go_returns
      have hfe : (X.drop 0).reverse.filter (fun x => decide (x ≤ key)) = (X.reverse.filter fun x => decide (x ≤ key)).take lim.toNat := by
        have h1 := HF.out; have h3 := HN.out
        rw [List.drop_zero] at h3 ⊢
        rw [List.take_of_length_le (by omega)]
      have hfl : f = ((X.reverse.filter fun x => decide (x ≤ key)).take lim.toNat).length := by rw [← hfe]; exact HN.out
      refine ⟨a, c, by rw [← hfl]; rfl, ?_, HB.out⟩
      rw [← hfl, ← hfe]
      exact ints_own HR.out (Nat.le_refl _)
end Go.Proofs.Ytkieifkbkmdgdaa
