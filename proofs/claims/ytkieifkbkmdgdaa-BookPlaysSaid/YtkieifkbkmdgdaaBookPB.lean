/-
  THE REFERENCE's TABLE: Put where the key is not there: the row of the values made anew. (Written by gen/XBookP.gen.py.)
-/
import Derived.Test.YtkieifkbkmdgdaaBookPA
namespace Go.Proofs.Ytkieifkbkmdgdaa
open Go.RowKit

set_option maxRecDepth 100000 in
set_option maxHeartbeats 20000000 in
theorem put_rest (n R : Nat) (L : List (Int × Int)) (key v : Int) (w : World) (HH : Hid (RB n w R L)) (HNW : Hid (n ≤ w.heap.size)) : PutRest n R L key v w := by
  intro i m W1 W2 ak av ck cv u10 u11 u12 u13 u14 u15 u16 u17 u18 u19 u20 u21 u22 u23 u24 u25 u26 u27 u28 u29 u30 u31 u32 u33 u34 u35 u36 u37 u38 u39 u40 u41 u42 u43 u44 u45 u46 u47 u48 u49 u50 u51 u52 u53 u54 u55 u56 u57 u58 u59 u60 u61 u62 u63 u64 u65 u66 u67 u68 u69 u70 u71 u72 u73 u74 u75 u76 u77 u78 u79 u80 u81 u82 u83 u84 u85 u86 u87 HO HM hl im i3 i5 H1 H4 HP hset
  have HS := Lib.hid hset
  obtain ⟨⟨v2, e2, _⟩, hv2, ho2⟩ := rb_mid H1.out (by rw [← HM.out]; exact H4.out) HO.out hset
  rw [← HM.out] at hv2
  have H42 := Lib.hid hv2
  have RW1 := Lib.hid (ref_cells e2).2
  have HRL := Lib.hid (lt_of_block e2)
  clear hset hv2 e2 ho2
  refine (show Code.wp Try.prog (Code.seq _ _) _ _ _ from ?_)
  go_upto_region 7 with fail
  go_cut [8] (fun s8 wd => s8 = .int .i64 i ∧ RowSet W2 R 1 ((valsL L).take i ++ [v] ++ (valsL L).drop i) (m + 1) wd)
  case first =>
    clear HH HNW HO H1 H4 HM HP HS
    obtain ⟨f0, g0⟩ := RW1.out W2 (Below.refl _ _)
    have hRl : R < W2.heap.size := HRL.out
    have hRne : R ≠ W2.heap.size := Nat.ne_of_lt hRl
    have hRne1 : R ≠ W2.heap.size + 1 := Nat.ne_of_lt (Nat.lt_succ_of_lt hRl)
    go_region_law (first
      | (refine iapp rfl (.tmp 68) (.tmp 74) rfl W2.heap.size (.slice (some ⟨_, 0, none⟩) 0 0) [] 0 rfl (own_empty (by first | exact inew0 _ _ | exact inew1 _ _ _ | exact iold1 _ _ _) (by first | exact Nat.le_refl _ | exact Nat.le_succ _)) _ ((valsL L).take i) i rfl (put_src H42.out im.out _ (by go_grown)) (by omega) (by simp <;> omega) i (by omega) _ rfl ?_
         intro x1 y1 v2 O1 N1 k1
         have M1 := Lib.hid ((show Below W2.heap.size W2 _ by go_grown).trans N1)
         have OH := Lib.hid O1
         have KP := Lib.hid k1
         obtain ⟨f0, g0⟩ := RW1.out v2 M1.out
         have hR2 : R < v2.heap.size := Nat.lt_of_lt_of_le hRl M1.out.size
         clear O1 N1 k1)
      | (refine iapp rfl (.tmp 75) (.tmp 77) rfl W2.heap.size _ ((valsL L).take i) i rfl (by first | exact OH.out | exact own_below OH.out ((Below.refl _ _).alloc (Nat.le_refl _) _)) _ [v] 1 rfl (one_src v (by first | exact heap_alloc_new _ _ | exact (KP.out _ (by rw [isize2]; first | exact Nat.lt_succ_self _ | exact Nat.lt_succ_of_lt (Nat.lt_succ_self _)) (by simp [Value.ownBlock])).trans (inew1 _ _ _) | exact (KP.out _ (by rw [isize2]; first | exact Nat.lt_succ_self _ | exact Nat.lt_succ_of_lt (Nat.lt_succ_self _)) (by simp [Value.ownBlock])).trans (iold1 _ _ _))) (by omega) (by have := M1.out.size; first | exact this | (rw [isize1]; exact Nat.le_succ_of_le this)) (i + 1) rfl _ rfl ?_
         intro x2 y2 v3 O2 N2 k2
         have M2 := Lib.hid ((show Below W2.heap.size W2 _ by first | exact M1.out | exact M1.out.alloc M1.out.size _).trans N2)
         have OG := Lib.hid O2
         obtain ⟨f0, g0⟩ := RW1.out v3 M2.out
         clear O2 N2 k2)
      | (refine iapp rfl (.tmp 78) (.tmp 84) rfl W2.heap.size _ ((valsL L).take i ++ [v]) (i + 1) rfl OG.out _ ((valsL L).drop i) (m - i) rfl (put_src2 H42.out im.out _ M2.out) (by have := im.out; omega) (by exact M2.out.size) (m + 1) (by have := im.out; omega) _ rfl ?_
         intro x3 y3 v4 O3 N3 k3
         have M3 := Lib.hid (M2.out.trans N3)
         have OF := Lib.hid O3
         obtain ⟨f0, g0⟩ := RW1.out v4 M3.out
         clear O3 N3 k3))
    all_goals
      clear OH M1 KP M2 OG f0 g0 hR2
      go_wp2 <;> go_meet
    all_goals exact ⟨rfl, x3, y3, v4, M3.out, rfl, OF.out⟩
  case rest =>
    obtain ⟨rfl, hset⟩ := hcut
    have HS2 := Lib.hid hset
    clear hset
    go_wp2
    go_returns
    have g1 := HS.out
    have g2 := HS2.out
    rw [show (keysL L).take i ++ [key] ++ (keysL L).drop i = keysL (putL key v L) by rw [HP.out]; simp [keysL]] at g1
    rw [show (valsL L).take i ++ [v] ++ (valsL L).drop i = valsL (putL key v L) by rw [HP.out]; simp [valsL]] at g2
    exact ⟨rfl, rb_two HH.out HNW.out HO.out (by rw [HP.out]; have := im.out; have := HM.out; simp; omega) g1 g2⟩
end Go.Proofs.Ytkieifkbkmdgdaa
