/-
  THE PROGRAM's TREE: without. Of at most five thousand keys.
-/
import Derived.Test.YtkieifkbkmdgdaaBookW
namespace Go.Proofs.Ytkieifkbkmdgdaa
open Go.RowKit

theorem Rec.from {S : Nat → Prop} {T : BT} {L : List (Int × Int)} {w W : World} {e : Ending} {w' : World} (h : Rec T L W e w') (ho : Only S w W) (hs : ∀ x, x < w.heap.size → S x → T.has x) : Rec T L w e w' := by
  obtain ⟨T', h1, h2, h3, h4, h5⟩ := h
  refine ⟨T', h1, h2, h3, fun x hx => ?_, (ho.mono hs).trans h5⟩
  rcases h4 x hx with hx | hx
  · exact .inl hx
  · exact .inr (Nat.le_trans ho.size hx)
theorem delL_last {l : List (Int × Int)} {k v : Int} (h : Rise l) (hl : l.getLast? = some (k, v)) (r : List (Int × Int)) : delL k l ++ (k, v) :: r = l ++ r := by
  obtain ⟨i, rfl⟩ := List.getLast?_eq_some_iff.1 hl
  rw [delL_eq h]
  simp

set_option maxHeartbeats 4000000 in
theorem without_any (T : BT) : ∀ (k : Int) (w : World), Tr w T → Rise T.list → getL k T.list ≠ none → T.list.length ≤ 5000 → Calls Try.prog 33 #[T.ptr, .int .i64 k] w (Rec T (delL k T.list) w) := by
  induction T with
  | nil => intro k w _ _ hg _; exact absurd rfl hg
  | node b k0 v0 l r ihl ihr =>
    intro k w H hs hg hn
    show Calls Try.prog 33 #[.pointer (some ⟨b, 0, none⟩), .int .i64 k] w _
    have hs' : Rise (l.list ++ (k0, v0) :: r.list) := hs
    obtain ⟨s1, s2, s3, s4⟩ := hs'.parts
    have hln : l.list.length + (r.list.length + 1) ≤ 5000 := by simpa [BT.list] using hn
    have hlh := l.ht_le
    have hrh := r.ht_le
    rcases Int.lt_trichotomy k k0 with hk | rfl | hk
    · have KS := Lib.hid (fun u hu => side_q b k k0 v0 _ _ _ 0 w u H.1 (by rw [if_pos hk]) hu)
      have hg' : getL k l.list ≠ none := fun e => hg ((getL_lt hs' hk).trans e)
      have hne : (k == k0) = false := beq_eq_false_iff_ne.2 (by omega)
      have KI : Hid (∀ u, Only (fun _ => False) w u → Calls Try.prog 33 #[l.ptr, .int .i64 k] u (Goes b 2 l.ptr (Rec (.node b k0 v0 l r) (delL k (BT.node b k0 v0 l r).list) w))) := by
        intro u hu
        have hI := ihl k u (H.2.1.keep hu fun _ _ => id) s1 hg' (by omega)
        have hG := goes_l H.half hu hI (by have := delL_len k l.list; omega) (by omega) k0 v0
        rwa [show delL k l.list ++ (k0, v0) :: r.list = delL k (BT.node b k0 v0 l r).list from (delL_lt hs' hk).symm] at hG
      have hc := H.1.cells.2.2.1
      have hc0 := H.1.cells.1
      obtain ⟨pp, hpp⟩ := l.ptr_is
      rw [hpp] at KI hc
      clear ihl ihr hs hs' s1 s2 s3 s4 hln hlh hrh hk hg' hpp hg hn
      go_enter Try.func33, Try.ntmps33
      go_wp2_with (go_at_call 38; refine (KS.out _ rfl).mono ?_; rintro e w1 ⟨rfl, n, hw⟩; have KO : Hid (Only (fun _ => False) w w1) := (by show Only _ _ _; rw [hw]; exact Only.drewN _ _ _); have d2 : w1.cell? ⟨b, 2, none⟩ = some (.pointer pp) := (by rw [hw]; exact hc); have d0 : w1.cell? ⟨b, 0, none⟩ = some (.int .i64 k0) := (by rw [hw]; exact hc0); clear hw)
      go_region_with (first
          | (go_at_call 33; (with_reducible refine (KI.out _ ?_).mono ?_); (focus exact KO.out.drew); rintro e X1 ⟨a, rfl, y1, y2, KN⟩))
      go_wp2_with fail
      refine (KN.out _ ?_).mono ?_
      · first | exact Only.refl _ _ | exact (Only.refl _ _).drew
      rintro e X2 ⟨T, rfl, hT⟩
      have KT := Lib.hid hT
      clear hT
      go_wp2
      go_returns
      exact ⟨T, rfl, KT.out⟩
    · have KS := Lib.hid (fun u hu => side_q b k k v0 _ _ _ 1 w u H.1 (by rw [if_neg (by omega)]) hu)
      have hd : delL k (BT.node b k v0 l r).list = l.list ++ r.list := delL_eq hs'
      obtain ⟨hc0, hc1, hc2, hc3, _⟩ := H.1.cells
      obtain ⟨hz0, hz1, _⟩ := H.1.free
      cases l with
      | nil =>
        have hc2' : w.cell? ⟨b, 2, none⟩ = some (.pointer none) := hc2
        obtain ⟨pr, hpr⟩ := r.ptr_is
        rw [hpr] at hc3
        have HD := Lib.hid hd
        have HPR := Lib.hid hpr
        clear ihl ihr hs hs' s1 s2 s3 s4 hln hlh hrh hg hn hd hc2 hpr
        go_enter Try.func33, Try.ntmps33
        go_wp2_with (go_at_call 38; refine (KS.out _ rfl).mono ?_; rintro e w1 ⟨rfl, n, rfl⟩)
        go_returns
        refine ⟨r, by rw [HPR.out]; rfl, H.2.2.1.keep (Only.drewN (fun _ => False) w n) (fun _ _ => id), HD.out.symm, fun x hx => .inl (.inr (.inr hx)), Only.drewN _ _ _⟩
      | node bl kl vl ll rl =>
        have hc2' : w.cell? ⟨b, 2, none⟩ = some (.pointer (some ⟨bl, 0, none⟩)) := hc2
        have KL : Hid (∀ u, Only (fun _ => False) w u → Calls Try.prog 40 #[.pointer (some ⟨bl, 0, none⟩)] u fun e w' => ∃ b1 k1 v1, e = .returned (.pointer (some ⟨b1, 0, none⟩)) ∧ b ≠ b1 ∧ w'.cell? ⟨b1, 0, none⟩ = some (.int .i64 k1) ∧ w'.cell? ⟨b1, 1, none⟩ = some (.int .i64 v1) ∧ Hid ((BT.node bl kl vl ll rl).list.getLast? = some (k1, v1)) ∧ ∃ n, w' = u.drewN n) := by
          intro u hu
          refine (last_any bl kl vl ll rl u (H.2.1.keep hu fun _ _ => id)).mono fun e w' ⟨⟨b1, k1, v1, p, q, h, he, hh, hN, hg⟩, n, hw⟩ => ⟨b1, k1, v1, he, ?_, ?_, ?_, hg, n, hw⟩
          · intro e
            exact H.2.2.2.1 (e ▸ hh)
          · rw [hw]; exact hN.cells.1
          · rw [hw]; exact hN.cells.2.1
        have KI : Hid (∀ (k1 v1 : Int) (W u : World), (BT.node bl kl vl ll rl).list.getLast? = some (k1, v1) → Only (· = b) w W → NodeAt W b k1 v1 (.pointer (some ⟨bl, 0, none⟩)) r.ptr ((1 + max (BT.node bl kl vl ll rl).ht r.ht : Nat) : Int) → Only (fun _ => False) W u →
            Calls Try.prog 33 #[.pointer (some ⟨bl, 0, none⟩), .int .i64 k1] u (Goes b 2 (.pointer (some ⟨bl, 0, none⟩)) (Rec (.node b k v0 (.node bl kl vl ll rl) r) (delL k (BT.node b k v0 (.node bl kl vl ll rl) r).list) w))) := by
          intro k1 v1 W u hlast hO hN hu
          have HW : Half W (Tr W) b k1 v1 (.node bl kl vl ll rl) r ((1 + max (BT.node bl kl vl ll rl).ht r.ht : Nat) : Int) :=
            ⟨hN, H.2.1.keep hO (fun x hx e => H.2.2.2.1 (e ▸ hx)), H.2.2.1.keep hO (fun x hx e => H.2.2.2.2.1 (e ▸ hx)), H.2.2.2.1, H.2.2.2.2.1, H.2.2.2.2.2⟩
          have hmem : (k1, v1) ∈ (BT.node bl kl vl ll rl).list := List.mem_of_getLast? hlast
          have hI := ihl k1 u (HW.2.1.keep hu fun _ _ => id) s1 (fun e => getL_none e _ hmem rfl) (by omega)
          have hG := goes_l HW hu hI (by have := delL_len k1 (BT.node bl kl vl ll rl).list; omega) (by omega) k v0
          rw [delL_last s1 hlast] at hG
          rw [hd]
          refine hG.mono fun e w' ⟨a, g1, g2, g3, g4⟩ => ⟨a, g1, g2, g3, fun u2 hu2 => (g4.out u2 hu2).mono fun e w3 hr => hr.from hO fun x _ hx => .inl hx⟩
        have HH := Lib.hid H
        clear ihl ihr hs hs' s1 s2 s3 s4 hln hlh hrh hg hn hd hc2 hc3 H
        go_enter Try.func33, Try.ntmps33
        go_wp2_with (first
          | (go_at_call 38; refine (KS.out _ rfl).mono ?_; rintro e w1 ⟨rfl, n, hw⟩; have KO : Hid (Only (fun _ => False) w w1) := (by show Only _ _ _; rw [hw]; exact Only.drewN _ _ _); have d2 : w1.cell? ⟨b, 2, none⟩ = some (.pointer (some ⟨bl, 0, none⟩)) := (by rw [hw]; exact hc2'); have d0 : w1.cell? ⟨b, 0, none⟩ = some (.int .i64 k) := (by rw [hw]; exact hc0); clear hw)
          | (go_at_call 40; refine (KL.out _ KO.out).mono ?_; rintro e w2 ⟨b1, k1, v1, rfl, hbb, f0, f1, HG, n2, hw2⟩; have KO2 : Hid (Only (fun _ => False) w w2) := (by show Only _ _ _; rw [hw2]; exact KO.out.trans (Only.drewN _ _ _)); clear hw2 d0 d2))
        have N2 : NodeAt w2 b k v0 (.pointer (some ⟨bl, 0, none⟩)) r.ptr ((1 + max (BT.node bl kl vl ll rl).ht r.ht : Nat) : Int) := NodeAt.keep HH.out.1 KO2.out id
        obtain ⟨d0, d1, _, _, _⟩ := N2.cells
        obtain ⟨y0, y1, _, _, _⟩ := N2.free
        have q1 : (b == b1) = false := beq_eq_false_iff_ne.2 hbb
        have KN2 := Lib.hid N2
        clear N2 hc0 hc1 hc2' hz0 hz1
        go_region
        obtain ⟨W, hW, O1, A1⟩ : ∃ W, W = ((w2.setCell ⟨b, 0, none⟩ (.int .i64 k1)).setCell ⟨b, 1, none⟩ (.int .i64 v1)).drew ∧ Only (· = b) w W ∧ NodeAt W b k1 v1 (.pointer (some ⟨bl, 0, none⟩)) r.ptr ((1 + max (BT.node bl kl vl ll rl).ht r.ht : Nat) : Int) :=
          ⟨_, rfl, (((KO2.out.nil.then (Only.set b 0 w2 _) fun _ _ hx => hx).then (Only.set b 1 _ _) fun _ _ hx => hx)).drew, ((KN2.out.setK k1).setV v1).drew⟩
        rw [← hW]
        have e2 := A1.cells.2.2.1
        have KJ : Hid (∀ u, Only (fun _ => False) W u → Calls Try.prog 33 #[.pointer (some ⟨bl, 0, none⟩), .int .i64 k1] u (Goes b 2 (.pointer (some ⟨bl, 0, none⟩)) (Rec (.node b k v0 (.node bl kl vl ll rl) r) (delL k (BT.node b k v0 (.node bl kl vl ll rl) r).list) w))) :=
          fun u hu => KI.out k1 v1 W u HG.out O1 A1 hu
        have KO : Hid (Only (fun _ => False) W W) := Only.refl _ _
        clear hW O1 A1 KI KL KS f0 f1 d0 d1 y0 y1
        go_wp2_with fail
        go_region_with (first
            | (go_at_call 33; (with_reducible refine (KJ.out _ ?_).mono ?_); (focus exact KO.out.drew); rintro e X1 ⟨a, rfl, y1, y2, KN⟩))
        go_wp2_with fail
        refine (KN.out _ ?_).mono ?_
        · first | exact Only.refl _ _ | exact (Only.refl _ _).drew
        rintro e X2 ⟨T, rfl, hT⟩
        have KT := Lib.hid hT
        clear hT
        go_wp2
        go_returns
        exact ⟨T, rfl, KT.out⟩
    · have KS := Lib.hid (fun u hu => side_q b k k0 v0 _ _ _ 1 w u H.1 (by rw [if_neg (by omega)]) hu)
      have hg' : getL k r.list ≠ none := fun e => hg ((getL_gt hs' hk).trans e)
      have hne : (k == k0) = false := beq_eq_false_iff_ne.2 (by omega)
      have KI : Hid (∀ u, Only (fun _ => False) w u → Calls Try.prog 33 #[r.ptr, .int .i64 k] u (Goes b 3 r.ptr (Rec (.node b k0 v0 l r) (delL k (BT.node b k0 v0 l r).list) w))) := by
        intro u hu
        have hI := ihr k u (H.2.2.1.keep hu fun _ _ => id) s2 hg' (by omega)
        have hG := goes_r H.half hu hI (by have := delL_len k r.list; omega) (by omega) k0 v0
        rwa [show l.list ++ (k0, v0) :: delL k r.list = delL k (BT.node b k0 v0 l r).list from (delL_gt hs' hk).symm] at hG
      have hc := H.1.cells.2.2.2.1
      have hc0 := H.1.cells.1
      obtain ⟨pp, hpp⟩ := r.ptr_is
      rw [hpp] at KI hc
      clear ihl ihr hs hs' s1 s2 s3 s4 hln hlh hrh hk hg' hpp hg hn
      go_enter Try.func33, Try.ntmps33
      go_wp2_with (go_at_call 38; refine (KS.out _ rfl).mono ?_; rintro e w1 ⟨rfl, n, hw⟩; have KO : Hid (Only (fun _ => False) w w1) := (by show Only _ _ _; rw [hw]; exact Only.drewN _ _ _); have d2 : w1.cell? ⟨b, 3, none⟩ = some (.pointer pp) := (by rw [hw]; exact hc); have d0 : w1.cell? ⟨b, 0, none⟩ = some (.int .i64 k0) := (by rw [hw]; exact hc0); clear hw)
      go_region_with (first
          | (go_at_call 33; (with_reducible refine (KI.out _ ?_).mono ?_); (focus exact KO.out.drew); rintro e X1 ⟨a, rfl, y1, y2, KN⟩))
      go_wp2_with fail
      refine (KN.out _ ?_).mono ?_
      · first | exact Only.refl _ _ | exact (Only.refl _ _).drew
      rintro e X2 ⟨T, rfl, hT⟩
      have KT := Lib.hid hT
      clear hT
      go_wp2
      go_returns
      exact ⟨T, rfl, KT.out⟩
end Go.Proofs.Ytkieifkbkmdgdaa
