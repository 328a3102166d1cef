/-
  THE REFERENCE's Ask, whole, of versions at most a million.
-/
import Derived.Test.YtenjjgghoacboaaChartF
namespace Go.Proofs.Ytenjjgghoacboaa
open Go.RowKit

theorem src_int1 (u : World) (x : Int) : Src Try.prog 1 41 (.slice (some ⟨u.heap.size, 0, none⟩) 1 1) 1 (intCells [x]) (u.alloc (.cells #[.int .i64 x] 3)) := by
  refine Src.ofSlice _ Try.underlying41 ⟨u.heap.size, 0, none⟩ 1 1 (intCells [x]) rfl ?_ ?_
  · intro j y hj
    have hb := heap_alloc_new u (.cells #[.int .i64 x] 3)
    match j, hj with
    | 0, hj => simp [intCells] at hj; subst hj; exact cell_of_row _ _ 0 _ _ _ hb
  · intro y hy
    simp [intCells] at hy
    subst hy
    rfl

theorem rep_new2 (w : World) (o1 o2 : Obj) (c n : Int) (d : ByteArray) (v : Value) : RepAt (((w.alloc o1).alloc o2).alloc (.cells #[.int .i64 c, .int .i64 n, .string d, v] 48)) (w.heap.size + 2) c n d v := by
  have := RepAt.new1 (w.alloc o1) o2 c n d v
  rwa [World.size_alloc] at this

set_option maxRecDepth 100000 in
set_option maxHeartbeats 4000000 in
theorem ra_hist (b off n cap : Nat) (L : List VerV) (cl sq id mt : Int) (dt : ByteArray) (w : World) (hn : L.length = n) (h1 : 1 ≤ n) (hn6 : n ≤ 1000000) (hbw : b < w.heap.size)
    (hc : Hid (∀ j, j < n → w.cell? ⟨b, off + j * 2, none⟩ = some (.bool (at' L j).gone) ∧ w.cell? ⟨b, off + j * 2 + 1, none⟩ = some (.string (at' L j).data))) :
    Calls Try.prog 127 #[.slice (some ⟨b, off, none⟩) n cap, .agg #[.int .i64 cl, .int .i64 sq, .int .i64 6, .int .i64 id, .int .i64 mt, .string dt]] w (Tells (signs L n) 1 n ⟨#[]⟩ w) := by
  have HN := Lib.hid hn
  obtain ⟨i0, hi, hz0, hz1, hz2⟩ := info_parts info_intH
  have e0 : ((n : Int) == 0) = false := by rw [beq_eq_false_iff_ne]; omega
  clear hn
  go_enter Try.func127, Try.ntmps127
  go_wp2
  obtain ⟨w3, hw3⟩ : ∃ w3, w3 = ((w.alloc (.cells #[.int .i64 cl, .int .i64 sq, .int .i64 6, .int .i64 id, .int .i64 mt, .string dt] 34)).alloc (.cells #[.int .i64 0, .int .i64 0, .string ⟨#[]⟩, .slice none 0 0] 48)).alloc (.cells #[.int .i64 1, .int .i64 n, .string ⟨#[]⟩, .slice none 0 0] 48) := ⟨_, rfl⟩
  have R3 : Hid (RepAt w3 (w.heap.size + 1) 0 0 ⟨#[]⟩ (.slice none 0 0)) := by show RepAt _ _ _ _ _ _; rw [hw3]; exact RepAt.alloc (RepAt.new1 w _ 0 0 ⟨#[]⟩ (.slice none 0 0)) _
  have S3 : Hid (RepAt w3 (w.heap.size + 2) 1 n ⟨#[]⟩ (.slice none 0 0)) := by show RepAt _ _ _ _ _ _; rw [hw3]; exact rep_new2 w _ _ _ _ _ _
  have B3 : Hid (Below w.heap.size w w3) := by show Below _ _ _; rw [hw3]; go_grown
  rw [← hw3]
  clear hw3
  go_loopw [7] (fun vi wr => ∃ (k : Nat) (ao : Option Addr) (c : Nat), k ≤ n ∧ vi = .int .i64 k ∧ RepAt wr (w.heap.size + 1) 0 0 ⟨#[]⟩ (.slice none 0 0) ∧ RepAt wr (w.heap.size + 2) 1 n ⟨#[]⟩ (.slice ao k c) ∧ wr.ownsRow w.heap.size 3 1 (.slice ao k c) k (intCells (signs L k)) ∧ Below w.heap.size w wr)
    (fun vi _ => n - (intOf vi).toNat)
  case atStart => exact ⟨0, none, 0, by omega, rfl, R3.out, S3.out, World.ownsRow_nil _ _ _ _, B3.out⟩
  case round =>
    obtain ⟨k, ao, c, hk, rfl, hR, hS, hO, hB⟩ := hrel
    have HR := Lib.hid hR
    have HS := Lib.hid hS
    have HO := Lib.hid hO
    have HB := Lib.hid hB
    obtain ⟨⟨d0, d1, d2, d3⟩, ⟨z0, z1, z2, z3⟩⟩ := hS.cells
    clear hR hO
    by_cases hlt : k < n
    · have q := hc.out k hlt
      have HG : Hid (signs L (k + 1) = signs L k ++ [if (at' L k).gone = true then -((k : Int) + 1) else (k : Int) + 1]) := signs_succ L k
      have f0 : wr.cell? ⟨b, off + k * 2, none⟩ = some (.bool (at' L k).gone) := (hB.cell (p := ⟨b, off + k * 2, none⟩) hbw).trans q.1
      clear q hS hB
      generalize (at' L k).gone = g at f0 HG
      have i1 : (0 : Int) ≤ (k : Int) := by omega
      have i2 : (k : Int) < (n : Int) := by omega
      cases g
      case false =>
        have HG' : Hid (signs L (k + 1) = signs L k ++ [(k : Int) + 1]) := HG.out
        clear HG
        go_wp2_with (at_builtin; refine wpList_append_own_src rfl (.tmp 88) (.tmp 90) 41 41 rfl w.heap.size 3 i0 (.int .i64 0) 1 8 Try.underlying41 hi hz0 hz1 hz2 rfl _ _ _ rfl (HO.out.alloc _) _ 1 (intCells [(k : Int) + 1]) rfl (src_int1 wr _) ?c3 ?c4 ?c5 ?_)
        case c3 => unfold maxLen; omega
        case c4 => omega
        case c5 => have := HB.out.size; simp; omega
        intro v' w1 O1 G1
        obtain ⟨a1, k1, rfl⟩ := own_shape O1
        obtain ⟨s1, s2, s3, s4, _, s6⟩ := rep_appended HR.out HS.out (by omega) HO.out HB.out.size (by omega) O1 G1
        have hc1 := s1.cells.1.2.2.2
        have hf1 := s1.cells.2.2.2.2
        have S2 := Lib.hid s2
        have S3 := Lib.hid s3
        have S4 := Lib.hid s4
        have S6 := Lib.hid s6
        clear O1 G1 d0 d1 d2 d3 z0 z1 z2 z3 s1 s2 s3 s4 s6
        go_wp2
        go_roundw
        case rel => exact ⟨k + 1, a1, k1, by omega, by go_num, S2.out, S3.out, by rw [HG'.out]; simpa [intCells] using S4.out, HB.out.trans S6.out⟩
        case measure => simp [intOf]; omega
      case true =>
        have HG' : Hid (signs L (k + 1) = signs L k ++ [-((k : Int) + 1)]) := HG.out
        clear HG
        go_wp2_with (at_builtin; refine wpList_append_own_src rfl (.tmp 88) (.tmp 90) 41 41 rfl w.heap.size 3 i0 (.int .i64 0) 1 8 Try.underlying41 hi hz0 hz1 hz2 rfl _ _ _ rfl (HO.out.alloc _) _ 1 (intCells [-((k : Int) + 1)]) rfl (src_int1 wr _) ?c3 ?c4 ?c5 ?_)
        case c3 => unfold maxLen; omega
        case c4 => omega
        case c5 => have := HB.out.size; simp; omega
        intro v' w1 O1 G1
        obtain ⟨a1, k1, rfl⟩ := own_shape O1
        obtain ⟨s1, s2, s3, s4, _, s6⟩ := rep_appended HR.out HS.out (by omega) HO.out HB.out.size (by omega) O1 G1
        have hc1 := s1.cells.1.2.2.2
        have hf1 := s1.cells.2.2.2.2
        have S2 := Lib.hid s2
        have S3 := Lib.hid s3
        have S4 := Lib.hid s4
        have S6 := Lib.hid s6
        clear O1 G1 d0 d1 d2 d3 z0 z1 z2 z3 s1 s2 s3 s4 s6
        go_wp2
        go_roundw
        case rel => exact ⟨k + 1, a1, k1, by omega, by go_num, S2.out, S3.out, by rw [HG'.out]; simpa [intCells] using S4.out, HB.out.trans S6.out⟩
        case measure => simp [intOf]; omega
    · obtain rfl : k = n := by omega
      obtain ⟨⟨g0, g1, g2, g3⟩, ⟨y0, y1, y2, y3⟩⟩ := HR.out.cells
      have HE := Lib.hid (rep_stored (c' := 1) (n' := k) (d' := ⟨#[]⟩) HR.out (.slice ao k c)).cells.1
      have HZ := Lib.hid (stored_row (c := 1) (n := k) (d := ⟨#[]⟩) (u := .slice ao k c) HO.out (HR.out.not_row HO.out))
      clear hS hB
      go_wp2
      obtain ⟨e0, e1, e2, e3⟩ := HE.out
      unfold stored at e0 e1 e2 e3
      refine bodyPost_ret (v := .agg #[.int .i64 1, .int .i64 k, .string ⟨#[]⟩, .slice ao k c]) (by simp [results, Try.results127, go_sem, e0, e1, e2, e3]) rfl ⟨ao, c, by rw [signs_length], ?_⟩
      rw [signs_length]
      exact ⟨ints_own HZ.out (Nat.le_refl _), own_lo HZ.out, stored_below HB.out (Nat.le_succ _) _ _ _ _⟩

/-- What the reference's Ask tells. -/
theorem refask_r (v : Value) (L : List VerV) (B : Nat) (cl sq kd id mt : Int) (dt : ByteArray) (c r : Int) (d : ByteArray) (l : List Int) (HR : Hid (askV L kd mt = ⟨c, r, d, l⟩)) (w : World) (hV : Vers w B v L) (hB : B ≤ w.heap.size) (hl : L.length ≤ 1000000) :
    Calls Try.prog 127 #[v, .agg #[.int .i64 cl, .int .i64 sq, .int .i64 kd, .int .i64 id, .int .i64 mt, .string dt]] w (Tells l c r d w) := by
  have h := HR.out
  unfold askV at h
  obtain ⟨ao, cap, rfl⟩ := hV.shape
  have fin : ∀ (g : Bool) (x : Int) (y : ByteArray) (e : Ending) (w' : World), (if g = true then (⟨3, x, ⟨#[]⟩, []⟩ : RepV) else ⟨1, x, y, []⟩) = ⟨c, r, d, l⟩ →
      (e = .returned (if g = true then .agg #[.int .i64 3, .int .i64 x, .string ⟨#[]⟩, .slice none 0 0] else .agg #[.int .i64 1, .int .i64 x, .string y, .slice none 0 0]) ∧ Below w.heap.size w w') → Tells l c r d w e w' := by
    intro g x y e w' hq ⟨he, hb⟩
    subst he
    cases g
    · obtain ⟨rfl, rfl, rfl, rfl⟩ : 1 = c ∧ x = r ∧ y = d ∧ [] = l := by simpa using hq
      exact ⟨none, 0, rfl, Ints.none _ _, fun a h => (by cases h), hb⟩
    · obtain ⟨rfl, rfl, rfl, rfl⟩ : 3 = c ∧ x = r ∧ (⟨#[]⟩ : ByteArray) = d ∧ [] = l := by simpa using hq
      exact ⟨none, 0, rfl, Ints.none _ _, fun a h => (by cases h), hb⟩
  by_cases h4 : kd = 4
  · rw [if_pos h4] at h
    by_cases h0 : L.length = 0
    · unfold rdV at h
      rw [if_pos (by omega)] at h
      obtain ⟨rfl, rfl, rfl, rfl⟩ : 2 = c ∧ 0 = r ∧ (⟨#[]⟩ : ByteArray) = d ∧ [] = l := by simpa using h
      rw [h0]
      exact ra_none ao cap cl sq kd id mt dt w (.inl h4)
    · unfold rdV at h
      rw [if_neg (by omega), show ((L.length : Int) - 1).toNat = L.length - 1 by omega] at h
      subst h4
      obtain ⟨b, off, rfl, hb, hc⟩ := hV.at (by omega)
      have hq := hc (L.length - 1) (by omega)
      exact (ra_last b off _ cap (at' L (L.length - 1)).gone (at' L (L.length - 1)).data cl sq id mt dt w (by omega) hl (show ∀ u, _ from fun u hu => ⟨((hu.mono hB).cell (p := ⟨b, _, none⟩) hb).trans hq.1, ((hu.mono hB).cell (p := ⟨b, _, none⟩) hb).trans hq.2⟩)).mono
        fun e w' hh => fin _ _ _ e w' h hh
  rw [if_neg h4] at h
  by_cases h5 : kd = 5
  · rw [if_pos h5] at h
    subst h5
    unfold rdV at h
    by_cases ho : mt < 1 ∨ (L.length : Int) < mt
    · rw [if_pos ho] at h
      obtain ⟨rfl, rfl, rfl, rfl⟩ : 2 = c ∧ 0 = r ∧ (⟨#[]⟩ : ByteArray) = d ∧ [] = l := by simpa using h
      exact ra_out ao _ cap cl sq id mt dt w ho
    · rw [if_neg ho] at h
      obtain ⟨k, rfl⟩ : ∃ k : Nat, mt = (k : Int) + 1 := ⟨(mt - 1).toNat, by omega⟩
      rw [show ((k : Int) + 1 - 1).toNat = k by omega] at h
      have hk : k < L.length := by omega
      obtain ⟨b, off, rfl, hb, hc⟩ := hV.at (by omega)
      have hq := hc k hk
      exact (ra_one b off _ cap k (at' L k).gone (at' L k).data cl sq id dt w hk hl (show ∀ u, _ from fun u hu => ⟨((hu.mono hB).cell (p := ⟨b, _, none⟩) hb).trans hq.1, ((hu.mono hB).cell (p := ⟨b, _, none⟩) hb).trans hq.2⟩)).mono
        fun e w' hh => fin _ _ _ e w' h hh
  rw [if_neg h5] at h
  by_cases h6 : kd = 6
  · rw [if_pos h6] at h
    unfold histV at h
    by_cases h0 : L.length = 0
    · rw [if_pos h0] at h
      obtain ⟨rfl, rfl, rfl, rfl⟩ : 2 = c ∧ 0 = r ∧ (⟨#[]⟩ : ByteArray) = d ∧ [] = l := by simpa using h
      rw [h0]
      exact ra_none ao cap cl sq kd id mt dt w (.inr h6)
    · rw [if_neg h0] at h
      obtain ⟨rfl, rfl, rfl, rfl⟩ : 1 = c ∧ (L.length : Int) = r ∧ (⟨#[]⟩ : ByteArray) = d ∧ signs L L.length = l := by simpa using h
      subst h6
      obtain ⟨b, off, rfl, hb, hc⟩ := hV.at (by omega)
      exact ra_hist b off _ cap L cl sq id mt dt w rfl (by omega) hl (by omega) hc
  rw [if_neg h6] at h
  obtain ⟨rfl, rfl, rfl, rfl⟩ : 0 = c ∧ 0 = r ∧ (⟨#[]⟩ : ByteArray) = d ∧ [] = l := by simpa using h
  exact ra_other _ cl sq kd id mt dt w ⟨_, _, _, rfl⟩ h4 h5 h6
end Go.Proofs.Ytenjjgghoacboaa
