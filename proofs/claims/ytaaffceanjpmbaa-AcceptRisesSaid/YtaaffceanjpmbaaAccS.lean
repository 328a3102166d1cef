/-
  THE REFERENCE's ACCEPTOR: Bytes; SameVote. For an acceptor as it may be.
-/
import Derived.Test.YtaaffceanjpmbaaAccT
import Derived.Test.YtaaffceanjpmbaaItemRC2
namespace Go.Proofs.Ytaaffceanjpmbaa
open Go.RowKit

set_option maxRecDepth 100000 in
set_option maxHeartbeats 4000000 in
theorem rabytes_r {w : World} {p : Nat} {s : AccV} (hA : Acc 50 w p s) (hok : s.ok) :
    Calls Try.prog 51 #[.pointer (some ⟨p, 0, none⟩)] w fun e w' => e = .returned (.string (txt s.bytes)) ∧ Below w.heap.size w w' := by
  obtain ⟨kv, cv, hA⟩ := hA
  have HA := Lib.hid hA
  have hr1 := mayV_yes.1 hok.p
  have hr2 := mayV_yes.1 hok.a
  have l1 := chainText_len hok.may
  have l2 := bal_len hok.p
  have l3 := bal_len hok.a
  have lh := hok.hlen
  have cb := chainBytes_len hok.may
  have hsz : ∀ l : List UInt8, (txt l).size = l.length := fun l => List.size_toArray ..
  have htt : ∀ ep L, (⟨(Lib.uvarint (txt (ChainV.bytes ⟨ep, L⟩)).size ++ (txt (ChainV.bytes ⟨ep, L⟩)).data.toList).toArray⟩ : ByteArray) = txt (chainText ep L) := fun ep L => by rw [hsz]; rfl
  obtain ⟨x1, hx1⟩ : ∃ x, x = txt (ChainV.bytes ⟨s.ke, s.K⟩) := ⟨_, rfl⟩
  obtain ⟨x2, hx2⟩ : ∃ x, x = txt (chainText s.ke s.K) := ⟨_, rfl⟩
  obtain ⟨x3, hx3⟩ : ∃ x, x = txt (balBytes s.v.pr.toNat s.v.pn.toNat) := ⟨_, rfl⟩
  obtain ⟨x4, hx4⟩ : ∃ x, x = txt (chainText s.ke s.K ++ balBytes s.v.pr.toNat s.v.pn.toNat) := ⟨_, rfl⟩
  obtain ⟨x5, hx5⟩ : ∃ x, x = txt [if s.v.has = true then 1 else 0] := ⟨_, rfl⟩
  obtain ⟨y, hy⟩ : ∃ x, x = txt s.head := ⟨_, rfl⟩
  have a1 : ∀ w, (Op.stringOp .add x2 x3).run Try.prog w = .ok (.string x4) w := by rw [hx2, hx3, hx4]; exact txt_add _ _ (by omega)
  have a2 : ∀ w, (Op.stringOp .add x4 x5).run Try.prog w = .ok (.string y) w := by rw [hx4, hx5, hy]; exact txt_add _ _ (by rw [List.length_append]; simp; omega)
  have e1 : s.v.pr = ((s.v.pr.toNat : Nat) : Int) := by omega
  have e2 : s.v.pn = ((s.v.pn.toNat : Nat) : Int) := by omega
  have K1 : Hid (∀ u, Below w.heap.size w u → Calls Try.prog 76 #[.agg #[.int .i64 s.ke, kv]] u fun e w' => e = .returned (.string x1) ∧ Below u.heap.size u w') := fun u hu => by rw [hx1]; exact refputchain_any s.ke kv s.K u.heap.size u (hA.on hu).k.ints (Nat.le_refl _) hok.may
  have K2 : Hid (∀ u, Below w.heap.size w u → Calls Try.prog 75 #[.string x1] u fun e w' => e = .returned (.string x2) ∧ Below u.heap.size u w') := fun u _ => by rw [hx1, hx2, ← htt]; exact reftext_any _ u (by rw [hsz]; omega)
  have K3 : Hid (∀ u, Below w.heap.size w u → Calls Try.prog 77 #[.agg #[.int .i64 s.v.pr, .int .i64 s.v.pn]] u fun e w' => e = .returned (.string x3) ∧ Below u.heap.size u w') := fun u _ => by
    rw [hx3]
    have := rvput_any s.v.pr.toNat s.v.pn.toNat u (by omega) (by omega)
    rwa [← e1, ← e2] at this
  obtain ⟨hx, hhx⟩ : ∃ b, b = s.v.has := ⟨_, rfl⟩
  have K4 : Hid (∀ u, Below w.heap.size w u → Calls Try.prog 78 #[.bool hx] u fun e w' => e = .returned (.string x5) ∧ Below u.heap.size u w') := fun u _ => by rw [hx5, ← hhx]; exact (refyes_any hx u).mono fun _ _ ⟨h1, h2⟩ => ⟨h1, h2 ▸ Below.refl _ _⟩
  have FX : Hid (∀ u, Below w.heap.size w u → u.cell? ⟨p, 0, none⟩ = some (.int .i64 s.n) ∧ u.cell? ⟨p, 1, none⟩ = some (.int .i64 s.ke) ∧ u.cell? ⟨p, 2, none⟩ = some (kv) ∧ u.cell? ⟨p, 3, none⟩ = some (.int .i64 s.v.pr) ∧ u.cell? ⟨p, 4, none⟩ = some (.int .i64 s.v.pn) ∧ u.cell? ⟨p, 5, none⟩ = some (.int .i64 s.v.ar) ∧ u.cell? ⟨p, 6, none⟩ = some (.int .i64 s.v.an) ∧ u.cell? ⟨p, 7, none⟩ = some (.bool hx) ∧ u.cell? ⟨p, 8, none⟩ = some (.int .i64 s.v.ce) ∧ u.cell? ⟨p, 9, none⟩ = some (cv)) := fun u hu => by rw [hhx]; exact (hA.on hu).b.cells
  have P0 : Below w.heap.size w w.drew := (Below.refl _ _).drew
  have HHX := Lib.hid hhx
  have HY := Lib.hid hy
  have HOK := Lib.hid hok
  clear hA hok hx1 hx2 hx3 hx4 hx5 hy hhx e1 e2
  cases hx with
  | false =>
    have HF : Hid (txt s.bytes = y) := by show _ = _; rw [HY.out, AccV.bytes, VoteV.bytes, ← HHX.out]; simp
    rw [HF.out]
    clear hsz htt
    go_enter Try.func51, Try.ntmps51
    go_wp2_with fail
    refine region_quiet (fun v => Below w.heap.size w v) (by kernel_rfl) (by kernel_rfl) P0 ?_
    repeat (first
      | go_big_quiet_skip
      | (go_big_quiet_want
         (first
          | (refine quiet_run (v := ?_) ?_ ?_; rotate_left; (intro u hu; obtain ⟨c0, c1, c2, c3, c4, c5, c6, c7, c8, c9⟩ := FX.out u hu; go_simp <;> with_reducible rfl); simp only [Act.put, List.setIfInBounds_toArray, List.set_cons_zero, List.set_cons_succ]; go_big_quiet_on)
          | (refine quiet_enter 76 _ ?_ (fun u hu => (K1.out u hu).mono fun e u' ⟨he, hb⟩ => ⟨he, hu.trans (hb.mono hu.size)⟩) ?_; (focus (intro u; first | (go_simp; done) | (go_simp; with_reducible rfl))); simp only [Act.put, List.setIfInBounds_toArray, List.set_cons_zero, List.set_cons_succ]; go_big_quiet_on)
          | (refine quiet_enter 75 _ ?_ (fun u hu => (K2.out u hu).mono fun e u' ⟨he, hb⟩ => ⟨he, hu.trans (hb.mono hu.size)⟩) ?_; (focus (intro u; first | (go_simp; done) | (go_simp; with_reducible rfl))); simp only [Act.put, List.setIfInBounds_toArray, List.set_cons_zero, List.set_cons_succ]; go_big_quiet_on)
          | (refine quiet_enter 77 _ ?_ (fun u hu => (K3.out u hu).mono fun e u' ⟨he, hb⟩ => ⟨he, hu.trans (hb.mono hu.size)⟩) ?_; (focus (intro u; first | (go_simp; done) | (go_simp; with_reducible rfl))); simp only [Act.put, List.setIfInBounds_toArray, List.set_cons_zero, List.set_cons_succ]; go_big_quiet_on)
          | (refine quiet_enter 78 _ ?_ (fun u hu => (K4.out u hu).mono fun e u' ⟨he, hb⟩ => ⟨he, hu.trans (hb.mono hu.size)⟩) ?_; (focus (intro u; first | (go_simp; done) | (go_simp; with_reducible rfl))); simp only [Act.put, List.setIfInBounds_toArray, List.set_cons_zero, List.set_cons_succ]; go_big_quiet_on))))
    refine wpQuiet_nil ?_
    intro w4 h4
    have C4 := Lib.hid h4
    obtain ⟨c0, c1, c2, c3, c4, c5, c6, c7, c8, c9⟩ := FX.out _ h4
    clear P0 h4
    go_wp2
    go_returns
    exact ⟨rfl, C4.out⟩
  | true =>
    have hmc := (HOK.out.yes HHX.out.symm).2.1
    have l4 := chainText_len hmc
    have cb2 := chainBytes_len hmc
    obtain ⟨x6, hx6⟩ : ∃ x, x = txt (balBytes s.v.ar.toNat s.v.an.toNat) := ⟨_, rfl⟩
    obtain ⟨x7, hx7⟩ : ∃ x, x = txt (s.head ++ balBytes s.v.ar.toNat s.v.an.toNat) := ⟨_, rfl⟩
    obtain ⟨x8, hx8⟩ : ∃ x, x = txt (ChainV.bytes ⟨s.v.ce, s.v.C⟩) := ⟨_, rfl⟩
    obtain ⟨x9, hx9⟩ : ∃ x, x = txt (chainText s.v.ce s.v.C) := ⟨_, rfl⟩
    obtain ⟨z, hz⟩ : ∃ x, x = txt s.bytes := ⟨_, rfl⟩
    have hbs : s.bytes = s.head ++ balBytes s.v.ar.toNat s.v.an.toNat ++ chainText s.v.ce s.v.C := by rw [AccV.bytes, VoteV.bytes, ← HHX.out]; simp
    have a3 : ∀ w, (Op.stringOp .add y x6).run Try.prog w = .ok (.string x7) w := by rw [HY.out, hx6, hx7]; exact txt_add _ _ (by omega)
    have a4 : ∀ w, (Op.stringOp .add x7 x9).run Try.prog w = .ok (.string z) w := by rw [hx7, hx9, hz, hbs]; exact txt_add _ _ (by rw [List.length_append]; omega)
    have e1 : s.v.ar = ((s.v.ar.toNat : Nat) : Int) := by omega
    have e2 : s.v.an = ((s.v.an.toNat : Nat) : Int) := by omega
    have K6 : Hid (∀ u, Below w.heap.size w u → Calls Try.prog 77 #[.agg #[.int .i64 s.v.ar, .int .i64 s.v.an]] u fun e w' => e = .returned (.string x6) ∧ Below u.heap.size u w') := fun u _ => by
      rw [hx6]
      have := rvput_any s.v.ar.toNat s.v.an.toNat u (by omega) (by omega)
      rwa [← e1, ← e2] at this
    have K7 : Hid (∀ u, Below w.heap.size w u → Calls Try.prog 76 #[.agg #[.int .i64 s.v.ce, cv]] u fun e w' => e = .returned (.string x8) ∧ Below u.heap.size u w') := fun u hu => by rw [hx8]; exact refputchain_any s.v.ce cv s.v.C u.heap.size u (HA.out.on hu).c.ints (Nat.le_refl _) hmc
    have K8 : Hid (∀ u, Below w.heap.size w u → Calls Try.prog 75 #[.string x8] u fun e w' => e = .returned (.string x9) ∧ Below u.heap.size u w') := fun u _ => by rw [hx8, hx9, ← htt]; exact reftext_any _ u (by rw [hsz]; omega)
    rw [← hz]
    clear hx6 hx7 hx8 hx9 hz hbs e1 e2 hmc hsz htt
    go_enter Try.func51, Try.ntmps51
    go_wp2_with fail
    refine region_quiet (fun v => Below w.heap.size w v) (by kernel_rfl) (by kernel_rfl) P0 ?_
    repeat (first
      | go_big_quiet_skip
      | (go_big_quiet_want
         (first
          | (refine quiet_run (v := ?_) ?_ ?_; rotate_left; (intro u hu; obtain ⟨c0, c1, c2, c3, c4, c5, c6, c7, c8, c9⟩ := FX.out u hu; go_simp <;> with_reducible rfl); simp only [Act.put, List.setIfInBounds_toArray, List.set_cons_zero, List.set_cons_succ]; go_big_quiet_on)
          | (refine quiet_enter 76 _ ?_ (fun u hu => (K1.out u hu).mono fun e u' ⟨he, hb⟩ => ⟨he, hu.trans (hb.mono hu.size)⟩) ?_; (focus (intro u; first | (go_simp; done) | (go_simp; with_reducible rfl))); simp only [Act.put, List.setIfInBounds_toArray, List.set_cons_zero, List.set_cons_succ]; go_big_quiet_on)
          | (refine quiet_enter 75 _ ?_ (fun u hu => (K2.out u hu).mono fun e u' ⟨he, hb⟩ => ⟨he, hu.trans (hb.mono hu.size)⟩) ?_; (focus (intro u; first | (go_simp; done) | (go_simp; with_reducible rfl))); simp only [Act.put, List.setIfInBounds_toArray, List.set_cons_zero, List.set_cons_succ]; go_big_quiet_on)
          | (refine quiet_enter 77 _ ?_ (fun u hu => (K3.out u hu).mono fun e u' ⟨he, hb⟩ => ⟨he, hu.trans (hb.mono hu.size)⟩) ?_; (focus (intro u; first | (go_simp; done) | (go_simp; with_reducible rfl))); simp only [Act.put, List.setIfInBounds_toArray, List.set_cons_zero, List.set_cons_succ]; go_big_quiet_on)
          | (refine quiet_enter 78 _ ?_ (fun u hu => (K4.out u hu).mono fun e u' ⟨he, hb⟩ => ⟨he, hu.trans (hb.mono hu.size)⟩) ?_; (focus (intro u; first | (go_simp; done) | (go_simp; with_reducible rfl))); simp only [Act.put, List.setIfInBounds_toArray, List.set_cons_zero, List.set_cons_succ]; go_big_quiet_on))))
    refine wpQuiet_nil ?_
    intro w4 h4
    have C4 := Lib.hid h4
    have FX4 : Hid (∀ u, Below w4.heap.size w4 u → u.cell? ⟨p, 0, none⟩ = some (.int .i64 s.n) ∧ u.cell? ⟨p, 1, none⟩ = some (.int .i64 s.ke) ∧ u.cell? ⟨p, 2, none⟩ = some (kv) ∧ u.cell? ⟨p, 3, none⟩ = some (.int .i64 s.v.pr) ∧ u.cell? ⟨p, 4, none⟩ = some (.int .i64 s.v.pn) ∧ u.cell? ⟨p, 5, none⟩ = some (.int .i64 s.v.ar) ∧ u.cell? ⟨p, 6, none⟩ = some (.int .i64 s.v.an) ∧ u.cell? ⟨p, 7, none⟩ = some (.bool true) ∧ u.cell? ⟨p, 8, none⟩ = some (.int .i64 s.v.ce) ∧ u.cell? ⟨p, 9, none⟩ = some (cv)) := fun u hu => FX.out u (C4.out.trans (hu.mono C4.out.size))
    have J6 : Hid (∀ u, Below w4.heap.size w4 u → Calls Try.prog 77 #[.agg #[.int .i64 s.v.ar, .int .i64 s.v.an]] u fun e w' => e = .returned (.string x6) ∧ Below u.heap.size u w') := fun u hu => K6.out u (C4.out.trans (hu.mono C4.out.size))
    have J7 : Hid (∀ u, Below w4.heap.size w4 u → Calls Try.prog 76 #[.agg #[.int .i64 s.v.ce, cv]] u fun e w' => e = .returned (.string x8) ∧ Below u.heap.size u w') := fun u hu => K7.out u (C4.out.trans (hu.mono C4.out.size))
    have J8 : Hid (∀ u, Below w4.heap.size w4 u → Calls Try.prog 75 #[.string x8] u fun e w' => e = .returned (.string x9) ∧ Below u.heap.size u w') := fun u hu => K8.out u (C4.out.trans (hu.mono C4.out.size))
    obtain ⟨c0, c1, c2, c3, c4, c5, c6, c7, c8, c9⟩ := FX4.out _ (Below.refl _ _)
    clear P0 h4 FX K6 K7 K8 K1 K2 K3 K4 a1 a2
    have P0 : Below w4.heap.size w4 w4.drew := (Below.refl _ _).drew
    go_wp2_with fail
    clear c0 c1 c2 c3 c4 c5 c6 c7 c8 c9
    refine region_quiet (fun v => Below w4.heap.size w4 v) (by kernel_rfl) (by kernel_rfl) P0 ?_
    repeat (first
      | go_big_quiet_skip
      | (go_big_quiet_want
         (first
          | (refine quiet_run (v := ?_) ?_ ?_; rotate_left; (intro u hu; obtain ⟨c0, c1, c2, c3, c4, c5, c6, c7, c8, c9⟩ := FX4.out u hu; go_simp <;> with_reducible rfl); simp only [Act.put, List.setIfInBounds_toArray, List.set_cons_zero, List.set_cons_succ]; go_big_quiet_on)
          | (refine quiet_enter 77 _ ?_ (fun u hu => (J6.out u hu).mono fun e u' ⟨he, hb⟩ => ⟨he, hu.trans (hb.mono hu.size)⟩) ?_; (focus (intro u; first | (go_simp; done) | (go_simp; with_reducible rfl))); simp only [Act.put, List.setIfInBounds_toArray, List.set_cons_zero, List.set_cons_succ]; go_big_quiet_on)
          | (refine quiet_enter 76 _ ?_ (fun u hu => (J7.out u hu).mono fun e u' ⟨he, hb⟩ => ⟨he, hu.trans (hb.mono hu.size)⟩) ?_; (focus (intro u; first | (go_simp; done) | (go_simp; with_reducible rfl))); simp only [Act.put, List.setIfInBounds_toArray, List.set_cons_zero, List.set_cons_succ]; go_big_quiet_on)
          | (refine quiet_enter 75 _ ?_ (fun u hu => (J8.out u hu).mono fun e u' ⟨he, hb⟩ => ⟨he, hu.trans (hb.mono hu.size)⟩) ?_; (focus (intro u; first | (go_simp; done) | (go_simp; with_reducible rfl))); simp only [Act.put, List.setIfInBounds_toArray, List.set_cons_zero, List.set_cons_succ]; go_big_quiet_on))))
    refine wpQuiet_nil ?_
    intro w5 h5
    have C5 := Lib.hid (C4.out.trans (h5.mono C4.out.size))
    clear P0 h5
    go_wp2
    go_returns
    exact ⟨rfl, C5.out⟩

set_option maxRecDepth 100000 in
set_option maxHeartbeats 4000000 in
/-- The reference's SameVote of two that are the same. -/
theorem rsamevote_r (v : VoteV) (c1 c2 : Value) (B : Nat) (w : World) (h1 : Ints w B c1 v.C) (h2 : Ints w B c2 v.C) (hB : B ≤ w.heap.size) (hl : v.C.length ≤ 1000000) :
    Calls Try.prog 20 #[.agg #[.int .i64 v.pr, .int .i64 v.pn, .int .i64 v.ar, .int .i64 v.an, .bool v.has, .int .i64 v.ce, c1], .agg #[.int .i64 v.pr, .int .i64 v.pn, .int .i64 v.ar, .int .i64 v.an, .bool v.has, .int .i64 v.ce, c2]] w fun e w' => e = .returned (.bool true) ∧ Below w.heap.size w w' := by
  obtain ⟨a1, q1, rfl⟩ : ∃ a c, c1 = .slice a v.C.length c := by obtain ⟨a, c, h, _⟩ := h1; exact ⟨a, c, h⟩
  obtain ⟨a2, q2, rfl⟩ : ∃ a c, c2 = .slice a v.C.length c := by obtain ⟨a, c, h, _⟩ := h2; exact ⟨a, c, h⟩
  obtain ⟨W, hW⟩ : ∃ W, W = (w.alloc (.cells #[.int .i64 v.pr, .int .i64 v.pn, .int .i64 v.ar, .int .i64 v.an, .bool v.has, .int .i64 v.ce, .slice a1 v.C.length q1] 32)).alloc (.cells #[.int .i64 v.pr, .int .i64 v.pn, .int .i64 v.ar, .int .i64 v.an, .bool v.has, .int .i64 v.ce, .slice a2 v.C.length q2] 32) := ⟨_, rfl⟩
  have hb : Below w.heap.size w W := by rw [hW]; exact ((Below.refl _ _).alloc (Nat.le_refl _) _).alloc (by simp) _
  have v1 : VotB W w.heap.size v (.slice a1 v.C.length q1) := by rw [hW]; exact (VotB.fresh w v _).keep ((Below.refl _ _).alloc (Nat.le_refl _) _) (by simp)
  have v2 : VotB W (w.heap.size + 1) v (.slice a2 v.C.length q2) := by
    rw [hW]
    have h := VotB.fresh (w.alloc (.cells #[.int .i64 v.pr, .int .i64 v.pn, .int .i64 v.ar, .int .i64 v.an, .bool v.has, .int .i64 v.ce, .slice a1 v.C.length q1] 32)) v (.slice a2 v.C.length q2)
    rwa [World.size_alloc] at h
  have HSC : Hid (Calls Try.prog 13 #[.agg #[.int .i64 v.ce, .slice a1 v.C.length q1], .agg #[.int .i64 v.ce, .slice a2 v.C.length q2]] W fun e w' => e = .returned (.bool true) ∧ Below W.heap.size W w') := (refsame_any v.ce v.ce _ _ v.C v.C B W (h1.keep (hb.mono hB)) (h2.keep (hb.mono hB)) (Nat.le_trans hB hb.size) hl).mono fun _ _ ⟨q1, q2⟩ => ⟨by simpa using q1, q2⟩
  have hq : ∀ (a b : Int) (u : World), (binOp .eql 30 (.agg #[.int .i64 a, .int .i64 b]) (.agg #[.int .i64 a, .int .i64 b])).run Try.prog u = .ok (.bool true) u := fun a b u => by rw [run_eq_ballot]; simp
  obtain ⟨x0, x1, x2, x3, x4, x5, x6⟩ := v1.cells
  obtain ⟨y0, y1, y2, y3, y4, y5, y6⟩ := v2.cells
  have HW := Lib.hid hW
  have HB := Lib.hid hb
  rw [hW] at x0 x1 x2 x3 x4 x5 x6 y0 y1 y2 y3 y4 y5 y6
  clear h1 h2 hb v1 v2 hW
  go_enter Try.func20, Try.ntmps20
  go_wp2_with fail
  rw [← HW.out]
  refine HSC.out.mono ?_
  rintro e w1 ⟨rfl, B1⟩
  have C1 := Lib.hid (HB.out.trans (B1.mono HB.out.size))
  clear B1 x0 x1 x2 x3 x4 x5 x6 y0 y1 y2 y3 y4 y5 y6
  go_wp2
  go_returns
  exact ⟨rfl, C1.out⟩

set_option maxRecDepth 100000 in
set_option maxHeartbeats 8000000 in
/-- The law's same, of an acceptor and the reference's in one state. -/
theorem same13_r {n : Nat} {w0 w : World} {p X : Nat} {s : AccV} (ha : AO n w0 p s w) (hx : Acc 50 w X s) :
    Calls Try.prog 24 #[.pointer (some ⟨p, 0, none⟩), .pointer (some ⟨X, 0, none⟩)] w fun e w' => e = .returned (.bool true) ∧ Below w.heap.size w w' := by
  obtain ⟨kv, cv, hX⟩ := id hx
  obtain ⟨ka, kc, rfl⟩ := hX.k.shape
  obtain ⟨xa, xc, rfl⟩ := hX.c.shape
  have hlen := ha.ok.len
  have FX : Hid (∀ u, Below w.heap.size w u → u.cell? ⟨X, 0, none⟩ = some (.int .i64 s.n) ∧ u.cell? ⟨X, 1, none⟩ = some (.int .i64 s.ke) ∧ u.cell? ⟨X, 2, none⟩ = some (.slice ka s.K.length kc) ∧ u.cell? ⟨X, 3, none⟩ = some (.int .i64 s.v.pr) ∧ u.cell? ⟨X, 4, none⟩ = some (.int .i64 s.v.pn) ∧ u.cell? ⟨X, 5, none⟩ = some (.int .i64 s.v.ar) ∧ u.cell? ⟨X, 6, none⟩ = some (.int .i64 s.v.an) ∧ u.cell? ⟨X, 7, none⟩ = some (.bool s.v.has) ∧ u.cell? ⟨X, 8, none⟩ = some (.int .i64 s.v.ce) ∧ u.cell? ⟨X, 9, none⟩ = some (.slice xa s.v.C.length xc)) := fun u hu => (hX.on hu).b.cells
  have HKN : Hid (∀ u, Below w.heap.size w u → Calls Try.prog 14 #[.pointer (some ⟨p, 0, none⟩)] u fun e w' => ∃ a m c, e = .returned (.agg #[.int .i64 s.ke, .slice a m c]) ∧ Hid (RowI w' (.slice a m c) s.K ∧ Below u.heap.size u w')) := fun u hu => (ao_known (ha.on hu)).mono fun _ _ ⟨a, m, c, he, hh⟩ => ⟨a, m, c, he, hh.out.1, hh.out.2.2⟩
  have HVT : Hid (∀ u, Below w.heap.size w u → Calls Try.prog 12 #[.pointer (some ⟨p, 0, none⟩)] u fun e w' => ∃ a m c, e = .returned (.agg #[.int .i64 s.v.pr, .int .i64 s.v.pn, .int .i64 s.v.ar, .int .i64 s.v.an, .bool s.v.has, .int .i64 s.v.ce, .slice a m c]) ∧ Hid (RowI w' (.slice a m c) s.v.C ∧ Below u.heap.size u w')) := fun u hu => (ao_vote (ha.on hu)).mono fun _ _ ⟨a, m, c, he, hh⟩ => ⟨a, m, c, he, hh.out.1, hh.out.2.2⟩
  have HBY : Hid (∀ u, Below w.heap.size w u → Calls Try.prog 17 #[.pointer (some ⟨p, 0, none⟩)] u fun e w' => ∃ a m c, e = .returned (.slice a m c) ∧ Hid (Hid (∀ y, Below w'.heap.size w' y → (convert 42 9 (.slice a m c)).run Try.prog y = .ok (.string (txt s.bytes)) y) ∧ Below u.heap.size u w')) := fun u hu => (ao_bytes (ha.on hu)).mono fun _ _ ⟨a, m, c, he, hh⟩ => ⟨a, m, c, he, (fun y hy => run_conv_byt (hh.out.1.keep hy)), hh.out.2.2⟩
  have HSC : Hid (∀ u v1, Below w.heap.size w u → RowI u v1 s.K → Calls Try.prog 13 #[.agg #[.int .i64 s.ke, v1], .agg #[.int .i64 s.ke, .slice ka s.K.length kc]] u fun e w' => e = .returned (.bool true) ∧ Below u.heap.size u w') := fun u v1 hu h1 =>
    (refsame_any s.ke s.ke _ _ s.K s.K u.heap.size u h1.ints (hX.on hu).k.ints (Nat.le_refl _) (by omega)).mono fun _ _ ⟨q1, q2⟩ => ⟨by simpa using q1, q2⟩
  have HSV : Hid (∀ u v1, Below w.heap.size w u → RowI u v1 s.v.C → Calls Try.prog 20 #[.agg #[.int .i64 s.v.pr, .int .i64 s.v.pn, .int .i64 s.v.ar, .int .i64 s.v.an, .bool s.v.has, .int .i64 s.v.ce, v1], .agg #[.int .i64 s.v.pr, .int .i64 s.v.pn, .int .i64 s.v.ar, .int .i64 s.v.an, .bool s.v.has, .int .i64 s.v.ce, .slice xa s.v.C.length xc]] u fun e w' => e = .returned (.bool true) ∧ Below u.heap.size u w') := fun u v1 hu h1 =>
    rsamevote_r s.v v1 _ u.heap.size u h1.ints (hX.on hu).c.ints (Nat.le_refl _) (by omega)
  have HRB : Hid (∀ u, Below w.heap.size w u → Calls Try.prog 51 #[.pointer (some ⟨X, 0, none⟩)] u fun e w' => e = .returned (.string (txt s.bytes)) ∧ Below u.heap.size u w') := fun u hu => rabytes_r (hx.on hu) ha.ok
  obtain ⟨z, hz⟩ : ∃ z, z = txt s.bytes := ⟨_, rfl⟩
  rw [← hz] at HBY HRB
  clear hz ha hx hX
  go_enter Try.func24, Try.ntmps24
  go_wp2_with fail
  refine wp_region_held_drew (S := (fun u => Below w.heap.size w u)) (by kernel_rfl) (Below.drew (Below.refl _ _)) (fun hHeld => ?_)
  first
    | (refine held_take 0 5 (v := ?_) rfl rfl (by kernel_rfl) (by kernel_rfl) (by kernel_rfl) (fun _ _ _ h => h) (by assumption) (by rfl) ?_ ?_; rotate_left; (focus (intro w hSw; (obtain ⟨c0, c1, c2, c3, c4, c5, c6, c7, c8, c9⟩ := FX.out _ hSw); go_simp <;> with_reducible rfl)))
    | refine held_pass 0 5 rfl rfl (by kernel_rfl) (by kernel_rfl) (by kernel_rfl) (fun _ _ _ h => h) (by assumption) (by rfl) ?_
  simp only [Act.put, List.setIfInBounds_toArray, List.set_cons_zero, List.set_cons_succ]
  first
    | (refine held_take 2 7 (v := ?_) rfl rfl (by kernel_rfl) (by kernel_rfl) (by kernel_rfl) (fun _ _ _ h => h) (by assumption) (by rfl) ?_ ?_; rotate_left; (focus (intro w hSw; (obtain ⟨c0, c1, c2, c3, c4, c5, c6, c7, c8, c9⟩ := FX.out _ hSw); go_simp <;> with_reducible rfl)))
    | refine held_pass 2 7 rfl rfl (by kernel_rfl) (by kernel_rfl) (by kernel_rfl) (fun _ _ _ h => h) (by assumption) (by rfl) ?_
  simp only [Act.put, List.setIfInBounds_toArray, List.set_cons_zero, List.set_cons_succ]
  first
    | (refine held_take 3 8 (v := ?_) rfl rfl (by kernel_rfl) (by kernel_rfl) (by kernel_rfl) (fun _ _ _ h => h) (by assumption) (by rfl) ?_ ?_; rotate_left; (focus (intro w hSw; (obtain ⟨c0, c1, c2, c3, c4, c5, c6, c7, c8, c9⟩ := FX.out _ hSw); go_simp <;> with_reducible rfl)))
    | refine held_pass 3 8 rfl rfl (by kernel_rfl) (by kernel_rfl) (by kernel_rfl) (fun _ _ _ h => h) (by assumption) (by rfl) ?_
  simp only [Act.put, List.setIfInBounds_toArray, List.set_cons_zero, List.set_cons_succ]
  first
    | (refine held_take 4 9 (v := ?_) rfl rfl (by kernel_rfl) (by kernel_rfl) (by kernel_rfl) (fun _ _ _ h => h) (by assumption) (by rfl) ?_ ?_; rotate_left; (focus (intro w hSw; (obtain ⟨c0, c1, c2, c3, c4, c5, c6, c7, c8, c9⟩ := FX.out _ hSw); go_simp <;> with_reducible rfl)))
    | refine held_pass 4 9 rfl rfl (by kernel_rfl) (by kernel_rfl) (by kernel_rfl) (fun _ _ _ h => h) (by assumption) (by rfl) ?_
  simp only [Act.put, List.setIfInBounds_toArray, List.set_cons_zero, List.set_cons_succ]
  first
    | (refine held_take 5 10 (v := ?_) rfl rfl (by kernel_rfl) (by kernel_rfl) (by kernel_rfl) (fun _ _ _ h => h) (by assumption) (by rfl) ?_ ?_; rotate_left; (focus (intro w hSw; (obtain ⟨c0, c1, c2, c3, c4, c5, c6, c7, c8, c9⟩ := FX.out _ hSw); go_simp <;> with_reducible rfl)))
    | refine held_pass 5 10 rfl rfl (by kernel_rfl) (by kernel_rfl) (by kernel_rfl) (fun _ _ _ h => h) (by assumption) (by rfl) ?_
  simp only [Act.put, List.setIfInBounds_toArray, List.set_cons_zero, List.set_cons_succ]
  refine held_call 1 6 rfl rfl (by kernel_rfl) (by rfl) (fun K hK => ?_)
  simp only [Go.wp_at_succ, Go.wp_at_zero]
  go_simp
  refine (HKN.out _ (Below.drew (Below.refl _ _))).mono ?_
  rintro e u1 ⟨a1, m1, q1, rfl, H1⟩
  have B1 := Lib.hid (Below.trans (Below.drew (Below.refl w.heap.size w)) H1.out.2)
  first | (with_reducible refine hK.out _ _ ?_ (fun hHeld => ?_)) | (go_wp2_with fail; refine hK.out _ _ ?_ (fun hHeld => ?_))
  · exact B1.out
  clear hK K
  try simp only [Act.put, List.setIfInBounds_toArray, List.set_cons_zero, List.set_cons_succ]
  refine held_call 6 11 rfl rfl (by kernel_rfl) (by rfl) (fun K hK => ?_)
  simp only [Go.wp_at_succ, Go.wp_at_zero]
  go_simp
  refine (HSC.out _ _ B1.out H1.out.1).mono ?_
  rintro e u2 ⟨rfl, b2⟩
  have B2 := Lib.hid (B1.out.trans (b2.mono B1.out.size))
  clear b2
  first | (with_reducible refine hK.out _ _ ?_ (fun hHeld => ?_)) | (go_wp2_with fail; refine hK.out _ _ ?_ (fun hHeld => ?_))
  · exact B2.out
  clear hK K
  try simp only [Act.put, List.setIfInBounds_toArray, List.set_cons_zero, List.set_cons_succ]
  first
    | (refine held_take 7 12 (v := ?_) rfl rfl (by kernel_rfl) (by kernel_rfl) (by kernel_rfl) (fun _ _ _ h => h) (by assumption) (by rfl) ?_ ?_; rotate_left; (focus (intro w hSw; (obtain ⟨c0, c1, c2, c3, c4, c5, c6, c7, c8, c9⟩ := FX.out _ hSw); go_simp <;> with_reducible rfl)))
    | refine held_pass 7 12 rfl rfl (by kernel_rfl) (by kernel_rfl) (by kernel_rfl) (fun _ _ _ h => h) (by assumption) (by rfl) ?_
  simp only [Act.put, List.setIfInBounds_toArray, List.set_cons_zero, List.set_cons_succ]
  first
    | (refine held_take 8 13 (v := ?_) rfl rfl (by kernel_rfl) (by kernel_rfl) (by kernel_rfl) (fun _ _ _ h => h) (by assumption) (by rfl) ?_ ?_; rotate_left; (focus (intro w hSw; (obtain ⟨c0, c1, c2, c3, c4, c5, c6, c7, c8, c9⟩ := FX.out _ hSw); go_simp <;> with_reducible rfl)))
    | refine held_pass 8 13 rfl rfl (by kernel_rfl) (by kernel_rfl) (by kernel_rfl) (fun _ _ _ h => h) (by assumption) (by rfl) ?_
  simp only [Act.put, List.setIfInBounds_toArray, List.set_cons_zero, List.set_cons_succ]
  first
    | (refine held_take 10 15 (v := ?_) rfl rfl (by kernel_rfl) (by kernel_rfl) (by kernel_rfl) (fun _ _ _ h => h) (by assumption) (by rfl) ?_ ?_; rotate_left; (focus (intro w hSw; (obtain ⟨c0, c1, c2, c3, c4, c5, c6, c7, c8, c9⟩ := FX.out _ hSw); go_simp <;> with_reducible rfl)))
    | refine held_pass 10 15 rfl rfl (by kernel_rfl) (by kernel_rfl) (by kernel_rfl) (fun _ _ _ h => h) (by assumption) (by rfl) ?_
  simp only [Act.put, List.setIfInBounds_toArray, List.set_cons_zero, List.set_cons_succ]
  first
    | (refine held_take 11 16 (v := ?_) rfl rfl (by kernel_rfl) (by kernel_rfl) (by kernel_rfl) (fun _ _ _ h => h) (by assumption) (by rfl) ?_ ?_; rotate_left; (focus (intro w hSw; (obtain ⟨c0, c1, c2, c3, c4, c5, c6, c7, c8, c9⟩ := FX.out _ hSw); go_simp <;> with_reducible rfl)))
    | refine held_pass 11 16 rfl rfl (by kernel_rfl) (by kernel_rfl) (by kernel_rfl) (fun _ _ _ h => h) (by assumption) (by rfl) ?_
  simp only [Act.put, List.setIfInBounds_toArray, List.set_cons_zero, List.set_cons_succ]
  first
    | (refine held_take 12 17 (v := ?_) rfl rfl (by kernel_rfl) (by kernel_rfl) (by kernel_rfl) (fun _ _ _ h => h) (by assumption) (by rfl) ?_ ?_; rotate_left; (focus (intro w hSw; (obtain ⟨c0, c1, c2, c3, c4, c5, c6, c7, c8, c9⟩ := FX.out _ hSw); go_simp <;> with_reducible rfl)))
    | refine held_pass 12 17 rfl rfl (by kernel_rfl) (by kernel_rfl) (by kernel_rfl) (fun _ _ _ h => h) (by assumption) (by rfl) ?_
  simp only [Act.put, List.setIfInBounds_toArray, List.set_cons_zero, List.set_cons_succ]
  first
    | (refine held_take 13 18 (v := ?_) rfl rfl (by kernel_rfl) (by kernel_rfl) (by kernel_rfl) (fun _ _ _ h => h) (by assumption) (by rfl) ?_ ?_; rotate_left; (focus (intro w hSw; (obtain ⟨c0, c1, c2, c3, c4, c5, c6, c7, c8, c9⟩ := FX.out _ hSw); go_simp <;> with_reducible rfl)))
    | refine held_pass 13 18 rfl rfl (by kernel_rfl) (by kernel_rfl) (by kernel_rfl) (fun _ _ _ h => h) (by assumption) (by rfl) ?_
  simp only [Act.put, List.setIfInBounds_toArray, List.set_cons_zero, List.set_cons_succ]
  refine held_call 9 14 rfl rfl (by kernel_rfl) (by rfl) (fun K hK => ?_)
  simp only [Go.wp_at_succ, Go.wp_at_zero]
  go_simp
  refine (HVT.out _ B2.out).mono ?_
  rintro e u3 ⟨a3, m3, q3, rfl, H3⟩
  have B3 := Lib.hid (B2.out.trans (H3.out.2.mono B2.out.size))
  first | (with_reducible refine hK.out _ _ ?_ (fun hHeld => ?_)) | (go_wp2_with fail; refine hK.out _ _ ?_ (fun hHeld => ?_))
  · exact B3.out
  clear hK K
  try simp only [Act.put, List.setIfInBounds_toArray, List.set_cons_zero, List.set_cons_succ]
  refine held_call 14 19 rfl rfl (by kernel_rfl) (by rfl) (fun K hK => ?_)
  simp only [Go.wp_at_succ, Go.wp_at_zero]
  go_simp
  refine (HSV.out _ _ B3.out H3.out.1).mono ?_
  rintro e u4 ⟨rfl, b4⟩
  have B4 := Lib.hid (B3.out.trans (b4.mono B3.out.size))
  clear b4
  first | (with_reducible refine hK.out _ _ ?_ (fun hHeld => ?_)) | (go_wp2_with fail; refine hK.out _ _ ?_ (fun hHeld => ?_))
  · exact B4.out
  clear hK K
  try simp only [Act.put, List.setIfInBounds_toArray, List.set_cons_zero, List.set_cons_succ]
  first
    | (refine held_take 15 20 (v := ?_) rfl rfl (by kernel_rfl) (by kernel_rfl) (by kernel_rfl) (fun _ _ _ h => h) (by assumption) (by rfl) ?_ ?_; rotate_left; (focus (intro w hSw; (obtain ⟨c0, c1, c2, c3, c4, c5, c6, c7, c8, c9⟩ := FX.out _ hSw); go_simp <;> with_reducible rfl)))
    | refine held_pass 15 20 rfl rfl (by kernel_rfl) (by kernel_rfl) (by kernel_rfl) (fun _ _ _ h => h) (by assumption) (by rfl) ?_
  simp only [Act.put, List.setIfInBounds_toArray, List.set_cons_zero, List.set_cons_succ]
  first
    | (refine held_take 16 21 (v := ?_) rfl rfl (by kernel_rfl) (by kernel_rfl) (by kernel_rfl) (fun _ _ _ h => h) (by assumption) (by rfl) ?_ ?_; rotate_left; (focus (intro w hSw; (obtain ⟨c0, c1, c2, c3, c4, c5, c6, c7, c8, c9⟩ := FX.out _ hSw); go_simp <;> with_reducible rfl)))
    | refine held_pass 16 21 rfl rfl (by kernel_rfl) (by kernel_rfl) (by kernel_rfl) (fun _ _ _ h => h) (by assumption) (by rfl) ?_
  simp only [Act.put, List.setIfInBounds_toArray, List.set_cons_zero, List.set_cons_succ]
  first
    | (refine held_take 17 22 (v := ?_) rfl rfl (by kernel_rfl) (by kernel_rfl) (by kernel_rfl) (fun _ _ _ h => h) (by assumption) (by rfl) ?_ ?_; rotate_left; (focus (intro w hSw; (obtain ⟨c0, c1, c2, c3, c4, c5, c6, c7, c8, c9⟩ := FX.out _ hSw); go_simp <;> with_reducible rfl)))
    | refine held_pass 17 22 rfl rfl (by kernel_rfl) (by kernel_rfl) (by kernel_rfl) (fun _ _ _ h => h) (by assumption) (by rfl) ?_
  simp only [Act.put, List.setIfInBounds_toArray, List.set_cons_zero, List.set_cons_succ]
  first
    | (refine held_take 20 25 (v := ?_) rfl rfl (by kernel_rfl) (by kernel_rfl) (by kernel_rfl) (fun _ _ _ h => h) (by assumption) (by rfl) ?_ ?_; rotate_left; (focus (intro w hSw; (obtain ⟨c0, c1, c2, c3, c4, c5, c6, c7, c8, c9⟩ := FX.out _ hSw); go_simp <;> with_reducible rfl)))
    | refine held_pass 20 25 rfl rfl (by kernel_rfl) (by kernel_rfl) (by kernel_rfl) (fun _ _ _ h => h) (by assumption) (by rfl) ?_
  simp only [Act.put, List.setIfInBounds_toArray, List.set_cons_zero, List.set_cons_succ]
  refine held_call 18 23 rfl rfl (by kernel_rfl) (by rfl) (fun K hK => ?_)
  simp only [Go.wp_at_succ, Go.wp_at_zero]
  go_simp
  refine (HBY.out _ B4.out).mono ?_
  rintro e u5 ⟨a5, m5, q5, rfl, H5⟩
  have B5 := Lib.hid (B4.out.trans (H5.out.2.mono B4.out.size))
  have KX := H5.out.1
  first | (with_reducible refine hK.out _ _ ?_ (fun hHeld => ?_)) | (go_wp2_with fail; refine hK.out _ _ ?_ (fun hHeld => ?_))
  · exact B5.out
  clear hK K
  try simp only [Act.put, List.setIfInBounds_toArray, List.set_cons_zero, List.set_cons_succ]
  refine held_narrow (S' := fun u => Below w.heap.size w u ∧ Below u5.heap.size u5 u) (fun _ h => h.1) _ _ _ _ ?_
  have hHeld2 : (fun u => Below w.heap.size w u ∧ Below u5.heap.size u5 u) u5 := ⟨B5.out, Below.refl _ _⟩
  first
    | (refine held_take 19 24 (v := ?_) rfl rfl (by kernel_rfl) (by kernel_rfl) (by kernel_rfl) (fun _ _ _ h => h) (by assumption) (by rfl) ?_ ?_; rotate_left; (focus (intro w hSw; (obtain ⟨c0, c1, c2, c3, c4, c5, c6, c7, c8, c9⟩ := FX.out _ hSw.1; have z3 := KX.out _ hSw.2); go_simp <;> with_reducible rfl)))
    | refine held_pass 19 24 rfl rfl (by kernel_rfl) (by kernel_rfl) (by kernel_rfl) (fun _ _ _ h => h) (by assumption) (by rfl) ?_
  simp only [Act.put, List.setIfInBounds_toArray, List.set_cons_zero, List.set_cons_succ]
  refine held_call 21 26 rfl rfl (by kernel_rfl) (by rfl) (fun K hK => ?_)
  simp only [Go.wp_at_succ, Go.wp_at_zero]
  go_simp
  refine (HRB.out _ B5.out).mono ?_
  rintro e u6 ⟨rfl, b6⟩
  have B6 := Lib.hid (B5.out.trans (b6.mono B5.out.size))
  have B65 := Lib.hid b6
  clear b6
  first | (with_reducible refine hK.out _ _ ?_ (fun hHeld => ?_)) | (go_wp2_with fail; refine hK.out _ _ ?_ (fun hHeld => ?_))
  · exact ⟨B6.out, B65.out⟩
  clear hK K
  try simp only [Act.put, List.setIfInBounds_toArray, List.set_cons_zero, List.set_cons_succ]
  first
    | (refine held_take 22 27 (v := ?_) rfl rfl (by kernel_rfl) (by kernel_rfl) (by kernel_rfl) (fun _ _ _ h => h) (by assumption) (by rfl) ?_ ?_; rotate_left; (focus (intro w hSw; (obtain ⟨c0, c1, c2, c3, c4, c5, c6, c7, c8, c9⟩ := FX.out _ hSw.1; have z3 := KX.out _ hSw.2); go_simp <;> with_reducible rfl)))
    | refine held_pass 22 27 rfl rfl (by kernel_rfl) (by kernel_rfl) (by kernel_rfl) (fun _ _ _ h => h) (by assumption) (by rfl) ?_
  simp only [Act.put, List.setIfInBounds_toArray, List.set_cons_zero, List.set_cons_succ]
  first
    | (refine held_take 23 28 (v := ?_) rfl rfl (by kernel_rfl) (by kernel_rfl) (by kernel_rfl) (fun _ _ _ h => h) (by assumption) (by rfl) ?_ ?_; rotate_left; (focus (intro w hSw; (obtain ⟨c0, c1, c2, c3, c4, c5, c6, c7, c8, c9⟩ := FX.out _ hSw.1; have z3 := KX.out _ hSw.2); go_simp <;> with_reducible rfl)))
    | refine held_pass 23 28 rfl rfl (by kernel_rfl) (by kernel_rfl) (by kernel_rfl) (fun _ _ _ h => h) (by assumption) (by rfl) ?_
  simp only [Act.put, List.setIfInBounds_toArray, List.set_cons_zero, List.set_cons_succ]
  first
    | (refine held_take 24 4 (v := ?_) rfl rfl (by kernel_rfl) (by kernel_rfl) (by kernel_rfl) (fun _ _ _ h => h) (by assumption) (by rfl) ?_ ?_; rotate_left; (focus (intro w hSw; (obtain ⟨c0, c1, c2, c3, c4, c5, c6, c7, c8, c9⟩ := FX.out _ hSw.1; have z3 := KX.out _ hSw.2); go_simp <;> with_reducible rfl)))
    | refine held_pass 24 4 rfl rfl (by kernel_rfl) (by kernel_rfl) (by kernel_rfl) (fun _ _ _ h => h) (by assumption) (by rfl) ?_
  simp only [Act.put, List.setIfInBounds_toArray, List.set_cons_zero, List.set_cons_succ]
  refine wpAnyH_done (by kernel_rfl) ?_ _
  go_wp2
  go_returns
  exact ⟨rfl, B6.out⟩

end Go.Proofs.Ytaaffceanjpmbaa
