/-
  THE REFERENCE's GetReq: the request that the text is, or none. For texts of at most 1000 bytes.
-/
import Derived.Test.YtocedkdgmhegeaaItemRPut
import Derived.Test.YtocedkdgmhegeaaItemMayS
import Derived.Test.YtocedkdgmhegeaaItemGet
namespace Go.Proofs.Ytocedkdgmhegeaa
open Go.RowKit

/-- The memory while the reference reads: the reader, the result's block, the request's block. -/
structure GG (w v : World) (st : Option (List UInt8)) (cl sq kd id mt : Int) (dt : ByteArray) : Prop where
  rd : RRdr v (w.heap.size + 1) st
  res : ReqB v w.heap.size 0 0 0 0 0 ⟨#[]⟩
  q : ReqB v (w.heap.size + 1 + 1) cl sq kd id mt dt
  bel : Below w.heap.size w v

theorem reqb_grown {w w' : World} {b h : Nat} {cl sq kd id mt : Int} {dt : ByteArray} (hq : ReqB w b cl sq kd id mt dt) (hg : w.grownBy w' (some h)) (hne : b ≠ h) : ReqB w' b cl sq kd id mt dt := by
  obtain ⟨e, hb⟩ := hq
  exact ⟨e, (hg.block b (lt_of_block hb) (fun e => hne (Option.some.inj e))).trans hb⟩

theorem GG.num {w v v' : World} {st st' : Option (List UInt8)} {cl sq kd id mt : Int} {dt : ByteArray} (g : GG w v st cl sq kd id mt dt) (h1 : RRdr v' (w.heap.size + 1) st') (h2 : v.grownBy v' (some (w.heap.size + 1))) : GG w v' st' cl sq kd id mt dt :=
  ⟨h1, reqb_grown g.res h2 (by omega), reqb_grown g.q h2 (by omega), g.bel.trans (grown_below h2 (by omega) g.rd.lt)⟩

theorem GG.set {w v : World} {st : Option (List UInt8)} {cl sq kd id mt cl' sq' kd' id' mt' : Int} {dt dt' : ByteArray} (g : GG w v st cl sq kd id mt dt) (o : Nat) (x : Value)
    (hx : (#[.int .i64 cl, .int .i64 sq, .int .i64 kd, .int .i64 id, .int .i64 mt, .string dt] : Array Value).setIfInBounds o x = #[.int .i64 cl', .int .i64 sq', .int .i64 kd', .int .i64 id', .int .i64 mt', .string dt']) :
    GG w (v.setCell ⟨w.heap.size + 1 + 1, o, none⟩ x) st cl' sq' kd' id' mt' dt' := by
  have hg := grownBy_setCell v (w.heap.size + 1 + 1) o x
  refine ⟨g.rd.keep (hg.block _ g.rd.lt (fun e => by have := Option.some.inj e; omega)), reqb_grown g.res hg (by omega), ?_, g.bel.setCell (show w.heap.size ≤ w.heap.size + 1 + 1 by omega) _⟩
  obtain ⟨e, hb⟩ := g.q
  exact ⟨e, by rw [heap_setCell_same _ _ _ _ _ _ hb, hx]⟩

def refB : Bounds := ⟨1099511627776, 1099511627776, 1099511627776, 1099511627776, 1099511627776, 1048576⟩
theorem refB_wide : refB.wide := by unfold Bounds.wide refB; decide

theorem gg_start (w : World) (l : List UInt8) (e e2 : TypeId) : GG w (((w.alloc (.cells #[.int .i64 0, .int .i64 0, .int .i64 0, .int .i64 0, .int .i64 0, .string ⟨#[]⟩] e)).alloc (.cells #[.string (txt l), .bool false] e2)).alloc (.cells #[.int .i64 0, .int .i64 0, .int .i64 0, .int .i64 0, .int .i64 0, .string ⟨#[]⟩] e)) (some l) 0 0 0 0 0 ⟨#[]⟩ := by
  have s1 : (w.alloc (.cells #[.int .i64 0, .int .i64 0, .int .i64 0, .int .i64 0, .int .i64 0, .string ⟨#[]⟩] e)).heap.size = w.heap.size + 1 := by simp
  have s2 : ((w.alloc (.cells #[.int .i64 0, .int .i64 0, .int .i64 0, .int .i64 0, .int .i64 0, .string ⟨#[]⟩] e)).alloc (.cells #[.string (txt l), .bool false] e2)).heap.size = w.heap.size + 2 := by simp
  have h0 := ReqB.fresh w 0 0 0 0 0 ⟨#[]⟩ e
  have h1 := heap_alloc_new (w.alloc (.cells #[.int .i64 0, .int .i64 0, .int .i64 0, .int .i64 0, .int .i64 0, .string ⟨#[]⟩] e)) (.cells #[.string (txt l), .bool false] e2)
  have h2 := ReqB.fresh ((w.alloc (.cells #[.int .i64 0, .int .i64 0, .int .i64 0, .int .i64 0, .int .i64 0, .string ⟨#[]⟩] e)).alloc (.cells #[.string (txt l), .bool false] e2)) 0 0 0 0 0 ⟨#[]⟩ e
  rw [s1] at h1
  rw [s2] at h2
  have b1 := (Below.refl (w.heap.size + 1) (w.alloc (.cells #[.int .i64 0, .int .i64 0, .int .i64 0, .int .i64 0, .int .i64 0, .string ⟨#[]⟩] e))).alloc (by rw [s1]; omega) (.cells #[.string (txt l), .bool false] e2)
  have b2 := (Below.refl (w.heap.size + 2) ((w.alloc (.cells #[.int .i64 0, .int .i64 0, .int .i64 0, .int .i64 0, .int .i64 0, .string ⟨#[]⟩] e)).alloc (.cells #[.string (txt l), .bool false] e2))).alloc (by rw [s2]; omega) (.cells #[.int .i64 0, .int .i64 0, .int .i64 0, .int .i64 0, .int .i64 0, .string ⟨#[]⟩] e)
  refine ⟨⟨e2, (b2.block (w.heap.size + 1) (by omega)).trans h1⟩, (h0.keep b1 (by omega)).keep b2 (by omega), h2, ?_⟩
  exact (((Below.refl _ w).alloc (Nat.le_refl _) _).trans (b1.mono (by omega))).trans (b2.mono (by omega))

set_option maxHeartbeats 2000000 in
set_option maxRecDepth 100000 in
theorem refgetreq_bad (l : List UInt8) (w : World) (hlim : l.length ≤ 1000) (hng : ¬ good refB l) :
    Calls Try.prog 18 #[.string (txt l)] w fun e w' => e = .returned (.tuple #[.agg #[.int .i64 0, .int .i64 0, .int .i64 0, .int .i64 0, .int .i64 0, .string ⟨#[]⟩], .int .i64 2]) ∧ Below w.heap.size w w' := by
  obtain ⟨V1, s1, e1⟩ : ∃ V s, st1 refB l = (V, s) := ⟨_, _, rfl⟩
  obtain ⟨V2, s2, e2⟩ : ∃ V s, st2 refB l = (V, s) := ⟨_, _, rfl⟩
  obtain ⟨V3, s3, e3⟩ : ∃ V s, st3 refB l = (V, s) := ⟨_, _, rfl⟩
  obtain ⟨V4, s4, e4⟩ : ∃ V s, st4 refB l = (V, s) := ⟨_, _, rfl⟩
  obtain ⟨V5, s5, e5⟩ : ∃ V s, st5 refB l = (V, s) := ⟨_, _, rfl⟩
  obtain ⟨V6, s6, e6⟩ : ∃ V s, st6 refB l = (V, s) := ⟨_, _, rfl⟩
  have hgot : got refB l = ⟨V1, V2, V3, V4, V5, V6⟩ := by simp only [got, e1, e2, e3, e4, e5, e6]
  have hgood : good refB l ↔ s6 = some [] ∧ ReqV.may ⟨V1, V2, V3, V4, V5, ⟨V6.toArray⟩⟩ := by simp only [good, hgot, e6, Got.req]
  have f1 : rNum 1099511627776 (some l) = (V1, s1) := e1
  have f2 : rNum 1099511627776 s1 = (V2, s2) := by rw [← e2, st2, e1]; rfl
  have f3 : rNum 1099511627776 s2 = (V3, s3) := by rw [← e3, st3, e2]; rfl
  have f4 : rNum 1099511627776 s3 = (V4, s4) := by rw [← e4, st4, e3]; rfl
  have f5 : rNum 1099511627776 s4 = (V5, s5) := by rw [← e5, st5, e4]; rfl
  have f6 : rText 1048576 s5 = (V6, s6) := by rw [← e6, st6, e5]; rfl
  have v1 := rNum_le 1099511627776 (some l)
  rw [f1] at v1
  have v2 := rNum_le 1099511627776 s1
  rw [f2] at v2
  have v3 := rNum_le 1099511627776 s2
  rw [f3] at v3
  have v4 := rNum_le 1099511627776 s3
  rw [f4] at v4
  have v5 := rNum_le 1099511627776 s4
  rw [f5] at v5
  simp only at v1 v2 v3 v4 v5
  have m0 : ∀ t, some l = some t → t.length ≤ 1000 := by intro t ht; rw [← Option.some.inj ht]; exact hlim
  have m1 := rNum_len2 1099511627776 (some l) _ m0
  rw [f1] at m1
  have m2 := rNum_len2 1099511627776 s1 _ m1
  rw [f2] at m2
  have m3 := rNum_len2 1099511627776 s2 _ m2
  rw [f3] at m3
  have m4 := rNum_len2 1099511627776 s3 _ m3
  rw [f4] at m4
  have m5 := rNum_len2 1099511627776 s4 _ m4
  rw [f5] at m5
  have m6 := rText_len2 1048576 s5 _ m5
  rw [f6] at m6
  simp only at m6
  have P1 : Hid (∀ u, RRdr u (w.heap.size + 1) (some l) → Calls Try.prog 38 #[.pointer (some ⟨w.heap.size + 1, 0, none⟩), .int .u64 1099511627776] u fun e w' => e = .returned (.int .u64 V1) ∧ RRdr w' (w.heap.size + 1) s1 ∧ u.grownBy w' (some (w.heap.size + 1))) := by
    intro u hR
    have := refrnum_any (w.heap.size + 1) (some l) 1099511627776 u hR m0
    rwa [f1] at this
  have P2 : Hid (∀ u, RRdr u (w.heap.size + 1) s1 → Calls Try.prog 38 #[.pointer (some ⟨w.heap.size + 1, 0, none⟩), .int .u64 1099511627776] u fun e w' => e = .returned (.int .u64 V2) ∧ RRdr w' (w.heap.size + 1) s2 ∧ u.grownBy w' (some (w.heap.size + 1))) := by
    intro u hR
    have := refrnum_any (w.heap.size + 1) s1 1099511627776 u hR m1
    rwa [f2] at this
  have P3 : Hid (∀ u, RRdr u (w.heap.size + 1) s2 → Calls Try.prog 38 #[.pointer (some ⟨w.heap.size + 1, 0, none⟩), .int .u64 1099511627776] u fun e w' => e = .returned (.int .u64 V3) ∧ RRdr w' (w.heap.size + 1) s3 ∧ u.grownBy w' (some (w.heap.size + 1))) := by
    intro u hR
    have := refrnum_any (w.heap.size + 1) s2 1099511627776 u hR m2
    rwa [f3] at this
  have P4 : Hid (∀ u, RRdr u (w.heap.size + 1) s3 → Calls Try.prog 38 #[.pointer (some ⟨w.heap.size + 1, 0, none⟩), .int .u64 1099511627776] u fun e w' => e = .returned (.int .u64 V4) ∧ RRdr w' (w.heap.size + 1) s4 ∧ u.grownBy w' (some (w.heap.size + 1))) := by
    intro u hR
    have := refrnum_any (w.heap.size + 1) s3 1099511627776 u hR m3
    rwa [f4] at this
  have P5 : Hid (∀ u, RRdr u (w.heap.size + 1) s4 → Calls Try.prog 38 #[.pointer (some ⟨w.heap.size + 1, 0, none⟩), .int .u64 1099511627776] u fun e w' => e = .returned (.int .u64 V5) ∧ RRdr w' (w.heap.size + 1) s5 ∧ u.grownBy w' (some (w.heap.size + 1))) := by
    intro u hR
    have := refrnum_any (w.heap.size + 1) s4 1099511627776 u hR m4
    rwa [f5] at this
  have P6 : Hid (∀ u, RRdr u (w.heap.size + 1) s5 → Calls Try.prog 39 #[.pointer (some ⟨w.heap.size + 1, 0, none⟩), .int .i64 1048576] u fun e w' => e = .returned (.string ⟨V6.toArray⟩) ∧ RRdr w' (w.heap.size + 1) s6 ∧ u.grownBy w' (some (w.heap.size + 1))) := by
    intro u hR
    have := refrtext_any (w.heap.size + 1) s5 1048576 1048576 (by omega) (.inr rfl) u hR m5
    rwa [f6] at this
  have hsz6 : (ByteArray.mk V6.toArray).size = V6.length := List.size_toArray
  have hd6 : (ByteArray.mk V6.toArray).size ≤ 9223372036854775807 := by rw [hsz6]; have := m6.2; omega
  have HM6 := Lib.hid m6.1
  have HX : Hid (txt l = ⟨l.toArray⟩) := rfl
  rw [hgood] at hng
  obtain ⟨S, hS⟩ : ∃ S, S = ByteArray.mk V6.toArray := ⟨_, rfl⟩
  have HSE := Lib.hid hS
  obtain ⟨T, hT⟩ : ∃ T, T = txt l := ⟨_, rfl⟩
  have HTE := Lib.hid hT
  rw [← hT]
  by_cases hE : s6 = some []
  case neg =>
    obtain ⟨E, hEE⟩ : ∃ E, E = rEnd s6 := ⟨_, rfl⟩
    have hb : 0 < E := by
      rw [hEE]
      cases s6 with
      | none => decide
      | some t =>
        cases t with
        | nil => exact absurd rfl hE
        | cons => show (0 : Int) < 9; decide
    have HEE := Lib.hid hEE
    clear hE hng hd6 hT hS hEE hlim e1 e2 e3 e4 e5 e6 f1 f2 f3 f4 f5 f6 m0 m1 m2 m3 m4 m5 m6 hgot hgood hsz6
    go_enter Try.func18, Try.ntmps18
    have g0 : GG w (((w.alloc (.cells #[.int .i64 0, .int .i64 0, .int .i64 0, .int .i64 0, .int .i64 0, .string ⟨#[]⟩] 23)).alloc (.cells #[.string T, .bool false] 68)).alloc (.cells #[.int .i64 0, .int .i64 0, .int .i64 0, .int .i64 0, .int .i64 0, .string ⟨#[]⟩] 23)) (some l) 0 0 0 0 0 ⟨#[]⟩ := by
      rw [HTE.out]
      exact gg_start w l 23 68
    have G0 := Lib.hid g0
    clear g0
    go_wp2_with fail
    refine (P1.out _ G0.out.rd).mono ?_
    rintro e u1 ⟨rfl, hR, hG⟩
    have A1 := Lib.hid (G0.out.num hR hG)
    have G1 := Lib.hid (A1.out.set (cl' := V1) (sq' := 0) (kd' := 0) (id' := 0) (mt' := 0) (dt' := ⟨#[]⟩) 0 (.int .i64 V1) rfl)
    have c0 := A1.out.q.cells
    have z0 := A1.out.q.free 0
    obtain ⟨c0, c1, c2, c3, c4, c5⟩ := c0
    clear hR hG G0
    go_wp2_with fail
    refine (P2.out _ G1.out.rd).mono ?_
    rintro e u2 ⟨rfl, hR, hG⟩
    have A2 := Lib.hid (G1.out.num hR hG)
    have G2 := Lib.hid (A2.out.set (cl' := V1) (sq' := V2) (kd' := 0) (id' := 0) (mt' := 0) (dt' := ⟨#[]⟩) 1 (.int .i64 V2) rfl)
    have c0 := A2.out.q.cells
    have z0 := A2.out.q.free 1
    obtain ⟨c0, c1, c2, c3, c4, c5⟩ := c0
    clear hR hG G1 A1
    go_wp2_with fail
    refine (P3.out _ G2.out.rd).mono ?_
    rintro e u3 ⟨rfl, hR, hG⟩
    have A3 := Lib.hid (G2.out.num hR hG)
    have G3 := Lib.hid (A3.out.set (cl' := V1) (sq' := V2) (kd' := V3) (id' := 0) (mt' := 0) (dt' := ⟨#[]⟩) 2 (.int .i64 V3) rfl)
    have c0 := A3.out.q.cells
    have z0 := A3.out.q.free 2
    obtain ⟨c0, c1, c2, c3, c4, c5⟩ := c0
    clear hR hG G2 A2
    go_wp2_with fail
    refine (P4.out _ G3.out.rd).mono ?_
    rintro e u4 ⟨rfl, hR, hG⟩
    have A4 := Lib.hid (G3.out.num hR hG)
    have G4 := Lib.hid (A4.out.set (cl' := V1) (sq' := V2) (kd' := V3) (id' := V4) (mt' := 0) (dt' := ⟨#[]⟩) 3 (.int .i64 V4) rfl)
    have c0 := A4.out.q.cells
    have z0 := A4.out.q.free 3
    obtain ⟨c0, c1, c2, c3, c4, c5⟩ := c0
    clear hR hG G3 A3
    go_wp2_with fail
    refine (P5.out _ G4.out.rd).mono ?_
    rintro e u5 ⟨rfl, hR, hG⟩
    have A5 := Lib.hid (G4.out.num hR hG)
    have G5 := Lib.hid (A5.out.set (cl' := V1) (sq' := V2) (kd' := V3) (id' := V4) (mt' := V5) (dt' := ⟨#[]⟩) 4 (.int .i64 V5) rfl)
    have c0 := A5.out.q.cells
    have z0 := A5.out.q.free 4
    obtain ⟨c0, c1, c2, c3, c4, c5⟩ := c0
    clear hR hG G4 A4
    go_wp2_with fail
    refine (P6.out _ G5.out.rd).mono ?_
    rintro e u6 ⟨rfl, hR, hG⟩
    rw [← HSE.out]
    have A6 := Lib.hid (G5.out.num hR hG)
    have G6 := Lib.hid (A6.out.set (cl' := V1) (sq' := V2) (kd' := V3) (id' := V4) (mt' := V5) (dt' := S) 5 (.string S) rfl)
    have c0 := A6.out.q.cells
    have z0 := A6.out.q.free 5
    obtain ⟨c0, c1, c2, c3, c4, c5⟩ := c0
    clear hR hG G5 A5
    have KE := Lib.hid (refrend_any (w.heap.size + 1) s6 _ G6.out.rd HM6.out)
    rw [← HEE.out] at KE
    have GZ := Lib.hid (And.intro G6.out.res G6.out.bel)
    clear c0 c1 c2 c3 c4 c5
    obtain ⟨c0, c1, c2, c3, c4, c5⟩ := A6.out.q.cells
    go_wp2_with fail
    refine KE.out.mono ?_
    rintro e v7 ⟨rfl, rfl⟩
    go_wp2_with (refine store_req rfl (.tmp 2) (.tmp 40) rfl w.heap.size rfl 0 0 0 0 0 ⟨#[]⟩ rfl GZ.out.1 ?_)
    intro w8 H8 G8
    obtain ⟨c0, c1, c2, c3, c4, c5⟩ := H8.cells
    have BF : Hid (Below w.heap.size w w8) := GZ.out.2.trans (grown_below G8 (Nat.le_refl _) GZ.out.1.lt)
    go_wp2
    refine bodyPost_ret (v := .tuple #[.agg #[.int .i64 0, .int .i64 0, .int .i64 0, .int .i64 0, .int .i64 0, .string ⟨#[]⟩], .int .i64 2]) (by simp [results, Try.results18, go_sem, c0, c1, c2, c3, c4, c5]) rfl ⟨rfl, BF.out⟩
  case pos =>
    have hnm : ¬ ReqV.may ⟨V1, V2, V3, V4, V5, S⟩ := fun h => hng ⟨hE, by rw [← hS]; exact h⟩
    have WM := Lib.hid (fun u => refmay_r V1 V2 V3 V4 V5 S (by rw [hS]; exact hd6) false (show _ = _ from (decide_eq_false hnm).symm) u)
    have HEs := Lib.hid hE
    clear hnm hE hng hd6 hT hS hlim e1 e2 e3 e4 e5 e6 f1 f2 f3 f4 f5 f6 m0 m1 m2 m3 m4 m5 m6 hgot hgood hsz6
    go_enter Try.func18, Try.ntmps18
    have g0 : GG w (((w.alloc (.cells #[.int .i64 0, .int .i64 0, .int .i64 0, .int .i64 0, .int .i64 0, .string ⟨#[]⟩] 23)).alloc (.cells #[.string T, .bool false] 68)).alloc (.cells #[.int .i64 0, .int .i64 0, .int .i64 0, .int .i64 0, .int .i64 0, .string ⟨#[]⟩] 23)) (some l) 0 0 0 0 0 ⟨#[]⟩ := by
      rw [HTE.out]
      exact gg_start w l 23 68
    have G0 := Lib.hid g0
    clear g0
    go_wp2_with fail
    refine (P1.out _ G0.out.rd).mono ?_
    rintro e u1 ⟨rfl, hR, hG⟩
    have A1 := Lib.hid (G0.out.num hR hG)
    have G1 := Lib.hid (A1.out.set (cl' := V1) (sq' := 0) (kd' := 0) (id' := 0) (mt' := 0) (dt' := ⟨#[]⟩) 0 (.int .i64 V1) rfl)
    have c0 := A1.out.q.cells
    have z0 := A1.out.q.free 0
    obtain ⟨c0, c1, c2, c3, c4, c5⟩ := c0
    clear hR hG G0
    go_wp2_with fail
    refine (P2.out _ G1.out.rd).mono ?_
    rintro e u2 ⟨rfl, hR, hG⟩
    have A2 := Lib.hid (G1.out.num hR hG)
    have G2 := Lib.hid (A2.out.set (cl' := V1) (sq' := V2) (kd' := 0) (id' := 0) (mt' := 0) (dt' := ⟨#[]⟩) 1 (.int .i64 V2) rfl)
    have c0 := A2.out.q.cells
    have z0 := A2.out.q.free 1
    obtain ⟨c0, c1, c2, c3, c4, c5⟩ := c0
    clear hR hG G1 A1
    go_wp2_with fail
    refine (P3.out _ G2.out.rd).mono ?_
    rintro e u3 ⟨rfl, hR, hG⟩
    have A3 := Lib.hid (G2.out.num hR hG)
    have G3 := Lib.hid (A3.out.set (cl' := V1) (sq' := V2) (kd' := V3) (id' := 0) (mt' := 0) (dt' := ⟨#[]⟩) 2 (.int .i64 V3) rfl)
    have c0 := A3.out.q.cells
    have z0 := A3.out.q.free 2
    obtain ⟨c0, c1, c2, c3, c4, c5⟩ := c0
    clear hR hG G2 A2
    go_wp2_with fail
    refine (P4.out _ G3.out.rd).mono ?_
    rintro e u4 ⟨rfl, hR, hG⟩
    have A4 := Lib.hid (G3.out.num hR hG)
    have G4 := Lib.hid (A4.out.set (cl' := V1) (sq' := V2) (kd' := V3) (id' := V4) (mt' := 0) (dt' := ⟨#[]⟩) 3 (.int .i64 V4) rfl)
    have c0 := A4.out.q.cells
    have z0 := A4.out.q.free 3
    obtain ⟨c0, c1, c2, c3, c4, c5⟩ := c0
    clear hR hG G3 A3
    go_wp2_with fail
    refine (P5.out _ G4.out.rd).mono ?_
    rintro e u5 ⟨rfl, hR, hG⟩
    have A5 := Lib.hid (G4.out.num hR hG)
    have G5 := Lib.hid (A5.out.set (cl' := V1) (sq' := V2) (kd' := V3) (id' := V4) (mt' := V5) (dt' := ⟨#[]⟩) 4 (.int .i64 V5) rfl)
    have c0 := A5.out.q.cells
    have z0 := A5.out.q.free 4
    obtain ⟨c0, c1, c2, c3, c4, c5⟩ := c0
    clear hR hG G4 A4
    go_wp2_with fail
    refine (P6.out _ G5.out.rd).mono ?_
    rintro e u6 ⟨rfl, hR, hG⟩
    rw [← HSE.out]
    have A6 := Lib.hid (G5.out.num hR hG)
    have G6 := Lib.hid (A6.out.set (cl' := V1) (sq' := V2) (kd' := V3) (id' := V4) (mt' := V5) (dt' := S) 5 (.string S) rfl)
    have c0 := A6.out.q.cells
    have z0 := A6.out.q.free 5
    obtain ⟨c0, c1, c2, c3, c4, c5⟩ := c0
    clear hR hG G5 A5
    have KE := Lib.hid (refrend_any (w.heap.size + 1) s6 _ G6.out.rd HM6.out)
    rw [HEs.out] at KE
    have KE0 : Hid (Calls Try.prog 40 #[.pointer (some ⟨w.heap.size + 1, 0, none⟩)] (u6.setCell ⟨w.heap.size + 1 + 1, 5, none⟩ (.string S)) fun e w' => e = .returned (.int .i64 0) ∧ (u6.setCell ⟨w.heap.size + 1 + 1, 5, none⟩ (.string S)) = w') := KE.out
    clear KE c0 c1 c2 c3 c4 c5
    obtain ⟨c0, c1, c2, c3, c4, c5⟩ := A6.out.q.cells
    go_wp2_with fail
    refine KE0.out.mono ?_
    rintro e v7 ⟨rfl, h7⟩
    clear c0 c1 c2 c3 c4 c5
    have G7 : Hid (GG w v7 s6 V1 V2 V3 V4 V5 S) := by rw [← h7]; exact G6.out
    clear h7
    obtain ⟨c0, c1, c2, c3, c4, c5⟩ := G7.out.q.cells
    go_wp2_with fail
    refine (WM.out _).mono ?_
    rintro e v8 ⟨rfl, B8⟩
    have GZ := Lib.hid (And.intro (G7.out.res.keep B8 G7.out.res.lt) (G7.out.bel.trans (B8.mono G7.out.bel.size)))
    clear B8 c0 c1 c2 c3 c4 c5
    go_wp2_with (refine store_req rfl (.tmp 2) (.tmp 40) rfl w.heap.size rfl 0 0 0 0 0 ⟨#[]⟩ rfl GZ.out.1 ?_)
    intro w8 H8 G8
    obtain ⟨c0, c1, c2, c3, c4, c5⟩ := H8.cells
    have BF : Hid (Below w.heap.size w w8) := GZ.out.2.trans (grown_below G8 (Nat.le_refl _) GZ.out.1.lt)
    go_wp2
    refine bodyPost_ret (v := .tuple #[.agg #[.int .i64 0, .int .i64 0, .int .i64 0, .int .i64 0, .int .i64 0, .string ⟨#[]⟩], .int .i64 2]) (by simp [results, Try.results18, go_sem, c0, c1, c2, c3, c4, c5]) rfl ⟨rfl, BF.out⟩

set_option maxHeartbeats 2000000 in
set_option maxRecDepth 100000 in
theorem refgetreq_good (l : List UInt8) (w : World) (hlim : l.length ≤ 1000) (hg : good refB l) :
    Calls Try.prog 18 #[.string (txt l)] w fun e w' => e = .returned (.tuple #[(got refB l).val, .int .i64 0]) ∧ Below w.heap.size w w' := by
  obtain ⟨V1, s1, e1⟩ : ∃ V s, st1 refB l = (V, s) := ⟨_, _, rfl⟩
  obtain ⟨V2, s2, e2⟩ : ∃ V s, st2 refB l = (V, s) := ⟨_, _, rfl⟩
  obtain ⟨V3, s3, e3⟩ : ∃ V s, st3 refB l = (V, s) := ⟨_, _, rfl⟩
  obtain ⟨V4, s4, e4⟩ : ∃ V s, st4 refB l = (V, s) := ⟨_, _, rfl⟩
  obtain ⟨V5, s5, e5⟩ : ∃ V s, st5 refB l = (V, s) := ⟨_, _, rfl⟩
  obtain ⟨V6, s6, e6⟩ : ∃ V s, st6 refB l = (V, s) := ⟨_, _, rfl⟩
  have hgot : got refB l = ⟨V1, V2, V3, V4, V5, V6⟩ := by simp only [got, e1, e2, e3, e4, e5, e6]
  have hgood : good refB l ↔ s6 = some [] ∧ ReqV.may ⟨V1, V2, V3, V4, V5, ⟨V6.toArray⟩⟩ := by simp only [good, hgot, e6, Got.req]
  have f1 : rNum 1099511627776 (some l) = (V1, s1) := e1
  have f2 : rNum 1099511627776 s1 = (V2, s2) := by rw [← e2, st2, e1]; rfl
  have f3 : rNum 1099511627776 s2 = (V3, s3) := by rw [← e3, st3, e2]; rfl
  have f4 : rNum 1099511627776 s3 = (V4, s4) := by rw [← e4, st4, e3]; rfl
  have f5 : rNum 1099511627776 s4 = (V5, s5) := by rw [← e5, st5, e4]; rfl
  have f6 : rText 1048576 s5 = (V6, s6) := by rw [← e6, st6, e5]; rfl
  have v1 := rNum_le 1099511627776 (some l)
  rw [f1] at v1
  have v2 := rNum_le 1099511627776 s1
  rw [f2] at v2
  have v3 := rNum_le 1099511627776 s2
  rw [f3] at v3
  have v4 := rNum_le 1099511627776 s3
  rw [f4] at v4
  have v5 := rNum_le 1099511627776 s4
  rw [f5] at v5
  simp only at v1 v2 v3 v4 v5
  have m0 : ∀ t, some l = some t → t.length ≤ 1000 := by intro t ht; rw [← Option.some.inj ht]; exact hlim
  have m1 := rNum_len2 1099511627776 (some l) _ m0
  rw [f1] at m1
  have m2 := rNum_len2 1099511627776 s1 _ m1
  rw [f2] at m2
  have m3 := rNum_len2 1099511627776 s2 _ m2
  rw [f3] at m3
  have m4 := rNum_len2 1099511627776 s3 _ m3
  rw [f4] at m4
  have m5 := rNum_len2 1099511627776 s4 _ m4
  rw [f5] at m5
  have m6 := rText_len2 1048576 s5 _ m5
  rw [f6] at m6
  simp only at m6
  have P1 : Hid (∀ u, RRdr u (w.heap.size + 1) (some l) → Calls Try.prog 38 #[.pointer (some ⟨w.heap.size + 1, 0, none⟩), .int .u64 1099511627776] u fun e w' => e = .returned (.int .u64 V1) ∧ RRdr w' (w.heap.size + 1) s1 ∧ u.grownBy w' (some (w.heap.size + 1))) := by
    intro u hR
    have := refrnum_any (w.heap.size + 1) (some l) 1099511627776 u hR m0
    rwa [f1] at this
  have P2 : Hid (∀ u, RRdr u (w.heap.size + 1) s1 → Calls Try.prog 38 #[.pointer (some ⟨w.heap.size + 1, 0, none⟩), .int .u64 1099511627776] u fun e w' => e = .returned (.int .u64 V2) ∧ RRdr w' (w.heap.size + 1) s2 ∧ u.grownBy w' (some (w.heap.size + 1))) := by
    intro u hR
    have := refrnum_any (w.heap.size + 1) s1 1099511627776 u hR m1
    rwa [f2] at this
  have P3 : Hid (∀ u, RRdr u (w.heap.size + 1) s2 → Calls Try.prog 38 #[.pointer (some ⟨w.heap.size + 1, 0, none⟩), .int .u64 1099511627776] u fun e w' => e = .returned (.int .u64 V3) ∧ RRdr w' (w.heap.size + 1) s3 ∧ u.grownBy w' (some (w.heap.size + 1))) := by
    intro u hR
    have := refrnum_any (w.heap.size + 1) s2 1099511627776 u hR m2
    rwa [f3] at this
  have P4 : Hid (∀ u, RRdr u (w.heap.size + 1) s3 → Calls Try.prog 38 #[.pointer (some ⟨w.heap.size + 1, 0, none⟩), .int .u64 1099511627776] u fun e w' => e = .returned (.int .u64 V4) ∧ RRdr w' (w.heap.size + 1) s4 ∧ u.grownBy w' (some (w.heap.size + 1))) := by
    intro u hR
    have := refrnum_any (w.heap.size + 1) s3 1099511627776 u hR m3
    rwa [f4] at this
  have P5 : Hid (∀ u, RRdr u (w.heap.size + 1) s4 → Calls Try.prog 38 #[.pointer (some ⟨w.heap.size + 1, 0, none⟩), .int .u64 1099511627776] u fun e w' => e = .returned (.int .u64 V5) ∧ RRdr w' (w.heap.size + 1) s5 ∧ u.grownBy w' (some (w.heap.size + 1))) := by
    intro u hR
    have := refrnum_any (w.heap.size + 1) s4 1099511627776 u hR m4
    rwa [f5] at this
  have P6 : Hid (∀ u, RRdr u (w.heap.size + 1) s5 → Calls Try.prog 39 #[.pointer (some ⟨w.heap.size + 1, 0, none⟩), .int .i64 1048576] u fun e w' => e = .returned (.string ⟨V6.toArray⟩) ∧ RRdr w' (w.heap.size + 1) s6 ∧ u.grownBy w' (some (w.heap.size + 1))) := by
    intro u hR
    have := refrtext_any (w.heap.size + 1) s5 1048576 1048576 (by omega) (.inr rfl) u hR m5
    rwa [f6] at this
  have hsz6 : (ByteArray.mk V6.toArray).size = V6.length := List.size_toArray
  have hd6 : (ByteArray.mk V6.toArray).size ≤ 9223372036854775807 := by rw [hsz6]; have := m6.2; omega
  have HM6 := Lib.hid m6.1
  have HX : Hid (txt l = ⟨l.toArray⟩) := rfl
  rw [hgot]
  unfold Got.val
  simp only
  rw [hgood] at hg
  obtain ⟨S, hS⟩ : ∃ S, S = ByteArray.mk V6.toArray := ⟨_, rfl⟩
  have HSE := Lib.hid hS
  obtain ⟨T, hT⟩ : ∃ T, T = txt l := ⟨_, rfl⟩
  have HTE := Lib.hid hT
  rw [← hT]
  rw [← hS] at hg ⊢
  obtain ⟨hE, hm⟩ := hg
  have WM := Lib.hid (fun u => refmay_r V1 V2 V3 V4 V5 S (by rw [hS]; exact hd6) true (show _ = _ from (decide_eq_true hm).symm) u)
  have HEs := Lib.hid hE
  clear hm hE hd6 hT hS hlim e1 e2 e3 e4 e5 e6 f1 f2 f3 f4 f5 f6 m0 m1 m2 m3 m4 m5 m6 hgot hgood hsz6
  go_enter Try.func18, Try.ntmps18
  have g0 : GG w (((w.alloc (.cells #[.int .i64 0, .int .i64 0, .int .i64 0, .int .i64 0, .int .i64 0, .string ⟨#[]⟩] 23)).alloc (.cells #[.string T, .bool false] 68)).alloc (.cells #[.int .i64 0, .int .i64 0, .int .i64 0, .int .i64 0, .int .i64 0, .string ⟨#[]⟩] 23)) (some l) 0 0 0 0 0 ⟨#[]⟩ := by
    rw [HTE.out]
    exact gg_start w l 23 68
  have G0 := Lib.hid g0
  clear g0
  go_wp2_with fail
  refine (P1.out _ G0.out.rd).mono ?_
  rintro e u1 ⟨rfl, hR, hG⟩
  have A1 := Lib.hid (G0.out.num hR hG)
  have G1 := Lib.hid (A1.out.set (cl' := V1) (sq' := 0) (kd' := 0) (id' := 0) (mt' := 0) (dt' := ⟨#[]⟩) 0 (.int .i64 V1) rfl)
  have c0 := A1.out.q.cells
  have z0 := A1.out.q.free 0
  obtain ⟨c0, c1, c2, c3, c4, c5⟩ := c0
  clear hR hG G0
  go_wp2_with fail
  refine (P2.out _ G1.out.rd).mono ?_
  rintro e u2 ⟨rfl, hR, hG⟩
  have A2 := Lib.hid (G1.out.num hR hG)
  have G2 := Lib.hid (A2.out.set (cl' := V1) (sq' := V2) (kd' := 0) (id' := 0) (mt' := 0) (dt' := ⟨#[]⟩) 1 (.int .i64 V2) rfl)
  have c0 := A2.out.q.cells
  have z0 := A2.out.q.free 1
  obtain ⟨c0, c1, c2, c3, c4, c5⟩ := c0
  clear hR hG G1 A1
  go_wp2_with fail
  refine (P3.out _ G2.out.rd).mono ?_
  rintro e u3 ⟨rfl, hR, hG⟩
  have A3 := Lib.hid (G2.out.num hR hG)
  have G3 := Lib.hid (A3.out.set (cl' := V1) (sq' := V2) (kd' := V3) (id' := 0) (mt' := 0) (dt' := ⟨#[]⟩) 2 (.int .i64 V3) rfl)
  have c0 := A3.out.q.cells
  have z0 := A3.out.q.free 2
  obtain ⟨c0, c1, c2, c3, c4, c5⟩ := c0
  clear hR hG G2 A2
  go_wp2_with fail
  refine (P4.out _ G3.out.rd).mono ?_
  rintro e u4 ⟨rfl, hR, hG⟩
  have A4 := Lib.hid (G3.out.num hR hG)
  have G4 := Lib.hid (A4.out.set (cl' := V1) (sq' := V2) (kd' := V3) (id' := V4) (mt' := 0) (dt' := ⟨#[]⟩) 3 (.int .i64 V4) rfl)
  have c0 := A4.out.q.cells
  have z0 := A4.out.q.free 3
  obtain ⟨c0, c1, c2, c3, c4, c5⟩ := c0
  clear hR hG G3 A3
  go_wp2_with fail
  refine (P5.out _ G4.out.rd).mono ?_
  rintro e u5 ⟨rfl, hR, hG⟩
  have A5 := Lib.hid (G4.out.num hR hG)
  have G5 := Lib.hid (A5.out.set (cl' := V1) (sq' := V2) (kd' := V3) (id' := V4) (mt' := V5) (dt' := ⟨#[]⟩) 4 (.int .i64 V5) rfl)
  have c0 := A5.out.q.cells
  have z0 := A5.out.q.free 4
  obtain ⟨c0, c1, c2, c3, c4, c5⟩ := c0
  clear hR hG G4 A4
  go_wp2_with fail
  refine (P6.out _ G5.out.rd).mono ?_
  rintro e u6 ⟨rfl, hR, hG⟩
  rw [← HSE.out]
  have A6 := Lib.hid (G5.out.num hR hG)
  have G6 := Lib.hid (A6.out.set (cl' := V1) (sq' := V2) (kd' := V3) (id' := V4) (mt' := V5) (dt' := S) 5 (.string S) rfl)
  have c0 := A6.out.q.cells
  have z0 := A6.out.q.free 5
  obtain ⟨c0, c1, c2, c3, c4, c5⟩ := c0
  clear hR hG G5 A5
  have KE := Lib.hid (refrend_any (w.heap.size + 1) s6 _ G6.out.rd HM6.out)
  rw [HEs.out] at KE
  have KE0 : Hid (Calls Try.prog 40 #[.pointer (some ⟨w.heap.size + 1, 0, none⟩)] (u6.setCell ⟨w.heap.size + 1 + 1, 5, none⟩ (.string S)) fun e w' => e = .returned (.int .i64 0) ∧ (u6.setCell ⟨w.heap.size + 1 + 1, 5, none⟩ (.string S)) = w') := KE.out
  clear KE
  clear c0 c1 c2 c3 c4 c5
  obtain ⟨c0, c1, c2, c3, c4, c5⟩ := A6.out.q.cells
  go_wp2_with fail
  refine KE0.out.mono ?_
  rintro e v7 ⟨rfl, h7⟩
  have G7 : Hid (GG w v7 s6 V1 V2 V3 V4 V5 S) := by rw [← h7]; exact G6.out
  clear h7 c0 c1 c2 c3 c4 c5
  obtain ⟨c0, c1, c2, c3, c4, c5⟩ := G7.out.q.cells
  go_wp2_with fail
  refine (WM.out _).mono ?_
  rintro e v8 ⟨rfl, B8⟩
  have GZ := Lib.hid (And.intro (G7.out.res.keep B8 G7.out.res.lt) (G7.out.bel.trans (B8.mono G7.out.bel.size)))
  have Q8 := G7.out.q.keep B8 G7.out.q.lt
  clear B8 c0 c1 c2 c3 c4 c5
  obtain ⟨c0, c1, c2, c3, c4, c5⟩ := Q8.cells
  clear Q8
  go_wp2_with (refine store_req rfl (.tmp 2) (.tmp 41) rfl w.heap.size rfl V1 V2 V3 V4 V5 S rfl GZ.out.1 ?_)
  intro w8 H8 G8
  clear c0 c1 c2 c3 c4 c5
  obtain ⟨c0, c1, c2, c3, c4, c5⟩ := H8.cells
  have BF : Hid (Below w.heap.size w w8) := GZ.out.2.trans (grown_below G8 (Nat.le_refl _) GZ.out.1.lt)
  go_wp2
  refine bodyPost_ret (v := .tuple #[.agg #[.int .i64 V1, .int .i64 V2, .int .i64 V3, .int .i64 V4, .int .i64 V5, .string S], .int .i64 0]) (by simp [results, Try.results18, go_sem, c0, c1, c2, c3, c4, c5]) rfl ⟨rfl, BF.out⟩
end Go.Proofs.Ytocedkdgmhegeaa
