/-
  THE REFERENCE's TABLE: Put where the key is not there: the row of the keys made anew. (Written by gen/XBookP.gen.py.)
-/
import Derived.Test.YtkieifkbkmdgdaaBookPA
namespace Go.Proofs.Ytkieifkbkmdgdaa
open Go.RowKit

set_option maxRecDepth 100000 in
set_option maxHeartbeats 20000000 in
theorem put_first (n R : Nat) (L : List (Int × Int)) (key v : Int) (w : World) (h : RB n w R L) (hr : Rise L) (hl : L.length ≤ 5000) (hget : getL key L = none) (hrest : PutRest n R L key v w) :
    Calls Try.prog 9 #[.pointer (some ⟨R, 0, none⟩), .int .i64 key, .int .i64 v] w fun e w' => e = .returned (.tuple #[.int .i64 0, .bool false]) ∧ RB n w' R (putL key v L) ∧ Only (RS n w) w w' := by
  have KA := Lib.hid (at_any n R L key w h hl)
  have HREST : Hid (PutRest n R L key v w) := hrest
  obtain ⟨vk, vv, h1, h2, h3, h4, h5⟩ := h
  obtain ⟨ak, ck, rfl, hck, _⟩ := row_of h3
  obtain ⟨av, cv, rfl, hcv, _⟩ := row_of h4
  have H1 := Lib.hid h1
  have H3 := Lib.hid h3
  have H4 := Lib.hid h4
  have HR := Lib.hid hr
  have HG := Lib.hid hget
  obtain ⟨m, hm⟩ : ∃ m, m = L.length := ⟨_, rfl⟩
  rw [← hm] at H1 H3 H4 hck hcv hl
  have HM := Lib.hid hm
  clear h1 h2 h3 h4 h5 hm hr hget hrest
  have c0 := (ref_cells H1.out).1 w (Below.refl _ _)
  go_enter Try.func9, Try.ntmps9
  go_wp2_with fail
  refine KA.out.mono ?_
  rintro e w1 ⟨⟨i, rfl, hi⟩, q, hw⟩
  have HO : Hid (Only (fun _ => False) w w1) := by show Only _ _ _; rw [hw]; exact Only.drewN _ _ _
  have H11 : Hid (w1.heap[R]? = some (.cells #[.slice ak m ck, .slice av m cv] 28 (0, 0))) := by show _ = _; rw [hw]; exact H1.out
  have H31 : Hid (w1.ownsRow n 3 1 (.slice ak m ck) m (intCells (keysL L))) := row_only H3.out HO.out fun _ _ => id
  have d0 := ((ref_cells H11.out).1 w1 (Below.refl _ _)).1
  have RW0 := Lib.hid (ref_cells H11.out).1
  have him : i ≤ m := by have := hi.1; have := HM.out; simp [keysL] at *; omega
  have im := Lib.hid him
  have hno : Hid (i < m → (keysL L).getD i 0 ≠ key) := fun h e => by
    have hil : i < L.length := by rw [← HM.out]; exact h
    have hsp := at_yes (key := key) hil e
    have h0 := HR.out
    have h1 := HG.out
    rw [hsp] at h0 h1
    rw [getL_eq h0] at h1
    cases h1
  have HP : Hid (putL key v L = L.take i ++ (key, v) :: L.drop i) := (at_no HR.out hi (by rw [← HM.out]; exact hno.out)).2
  have i3 : (i : Int) ≤ (m : Int) := by omega
  have i4 : (i : Int) ≤ (ck : Int) := by omega
  have i5 : (i : Int) ≤ (cv : Int) := by omega
  clear hw c0 hi him HG HR
  go_upto_region 2 with fail
  go_cut [30] (fun s30 wc => s30 = .bool false ∧ wc = w1)
  case first =>
    by_cases hlt : i < m
    · obtain ⟨g, rfl, hg, hgl, _, hcell⟩ := row_at H31.out (by omega)
      obtain ⟨x, hx⟩ : ∃ x, x = (keysL L).getD i 0 := ⟨_, rfl⟩
      have cx : w1.cell? ⟨g, i, none⟩ = some (.int .i64 x) := by rw [hx]; exact (hcell i hlt).1
      have hb : (x == key) = false := beq_eq_false_iff_ne.2 (by rw [hx]; exact hno.out hlt)
      have i0 : (0 : Int) ≤ (i : Int) := by omega
      have i1 : (i : Int) < (m : Int) := by omega
      clear hx hcell hno
      go_wp2_with fail
      go_meet
      exact ⟨rfl, rfl⟩
    · have hle : (m : Int) ≤ (i : Int) := by omega
      clear hlt
      go_wp2_with fail
      go_meet
      exact ⟨rfl, rfl⟩
  case rest =>
    obtain ⟨rfl, rfl⟩ := hcut
    go_wp2_with fail
    clear d0
    go_cut [8] (fun s8 wd => s8 = .int .i64 i ∧ RowSet wc R 0 ((keysL L).take i ++ [key] ++ (keysL L).drop i) (m + 1) wd)
    case first =>
      clear HO H1 H3 H4 KA HM hno HP HREST
      obtain ⟨f0, g0⟩ := RW0.out wc (Below.refl _ _)
      have hRl : R < wc.heap.size := lt_of_block H11.out
      have hRne : R ≠ wc.heap.size := Nat.ne_of_lt hRl
      have hRne1 : R ≠ wc.heap.size + 1 := Nat.ne_of_lt (Nat.lt_succ_of_lt hRl)
      go_region_law (first
        | (refine iapp rfl (.tmp 47) (.tmp 53) rfl wc.heap.size (.slice (some ⟨_, 0, none⟩) 0 0) [] 0 rfl (own_empty (by first | exact inew0 _ _ | exact inew1 _ _ _ | exact iold1 _ _ _) (by first | exact Nat.le_refl _ | exact Nat.le_succ _)) _ ((keysL L).take i) i rfl (put_src H31.out im.out _ (by go_grown)) (by omega) (by simp <;> omega) i (by omega) _ rfl ?_
           intro x1 y1 v2 O1 N1 k1
           have M1 := Lib.hid ((show Below wc.heap.size wc _ by go_grown).trans N1)
           have OH := Lib.hid O1
           have KP := Lib.hid k1
           obtain ⟨f0, g0⟩ := RW0.out v2 M1.out
           have hR2 : R < v2.heap.size := Nat.lt_of_lt_of_le hRl M1.out.size
           clear O1 N1 k1)
        | (refine iapp rfl (.tmp 54) (.tmp 56) rfl wc.heap.size _ ((keysL L).take i) i rfl (by first | exact OH.out | exact own_below OH.out ((Below.refl _ _).alloc (Nat.le_refl _) _)) _ [key] 1 rfl (one_src key (by first | exact heap_alloc_new _ _ | exact (KP.out _ (by rw [isize2]; first | exact Nat.lt_succ_self _ | exact Nat.lt_succ_of_lt (Nat.lt_succ_self _)) (by simp [Value.ownBlock])).trans (inew1 _ _ _) | exact (KP.out _ (by rw [isize2]; first | exact Nat.lt_succ_self _ | exact Nat.lt_succ_of_lt (Nat.lt_succ_self _)) (by simp [Value.ownBlock])).trans (iold1 _ _ _))) (by omega) (by have := M1.out.size; first | exact this | (rw [isize1]; exact Nat.le_succ_of_le this)) (i + 1) rfl _ rfl ?_
           intro x2 y2 v3 O2 N2 k2
           have M2 := Lib.hid ((show Below wc.heap.size wc _ by first | exact M1.out | exact M1.out.alloc M1.out.size _).trans N2)
           have OG := Lib.hid O2
           obtain ⟨f0, g0⟩ := RW0.out v3 M2.out
           clear O2 N2 k2)
        | (refine iapp rfl (.tmp 57) (.tmp 63) rfl wc.heap.size _ ((keysL L).take i ++ [key]) (i + 1) rfl OG.out _ ((keysL L).drop i) (m - i) rfl (put_src2 H31.out im.out _ M2.out) (by have := im.out; omega) (by exact M2.out.size) (m + 1) (by have := im.out; omega) _ rfl ?_
           intro x3 y3 v4 O3 N3 k3
           have M3 := Lib.hid (M2.out.trans N3)
           have OF := Lib.hid O3
           obtain ⟨f0, g0⟩ := RW0.out v4 M3.out
           clear O3 N3 k3))
      all_goals
        clear OH M1 KP M2 OG f0 g0 hR2
        go_wp2 <;> go_meet
      all_goals exact ⟨rfl, x3, y3, v4, M3.out, rfl, OF.out⟩
    case rest =>
      obtain ⟨rfl, hset⟩ := hcut
      rename_i KK hKK
      refine hKK _ _ ?_
      exact HREST.out i m _ _ ak av ck cv u10 u11 u12 u13 u14 u15 u16 u17 u18 u19 u20 u21 u22 u23 u24 u25 u26 u27 u28 u29 u30 u31 u32 u33 u34 u35 u36 u37 u38 u39 u40 u41 u42 u43 u44 u45 u46 u47 u48 u49 u50 u51 u52 u53 u54 u55 u56 u57 u58 u59 u60 u61 u62 u63 u64 u65 u66 u67 u68 u69 u70 u71 u72 u73 u74 u75 u76 u77 u78 u79 u80 u81 u82 u83 u84 u85 u86 u87 HO HM hl im i3 i5 H1 H4 HP hset
end Go.Proofs.Ytkieifkbkmdgdaa
