/-
  THE PROGRAM's TREE: find, with, without. Of at most five thousand keys.
-/
import Derived.Test.YtkieifkbkmdgdaaBookM
namespace Go.Proofs.Ytkieifkbkmdgdaa
open Go.RowKit

/-- What find tells. -/
def Found (k : Int) (T : BT) (w : World) (e : Ending) (w' : World) : Prop :=
  (∃ n, w' = w.drewN n) ∧ ((getL k T.list = none ∧ e = .returned (.pointer none)) ∨ ∃ b v p q h, e = .returned (.pointer (some ⟨b, 0, none⟩)) ∧ NodeAt w b k v p q h ∧ T.has b ∧ getL k T.list = some v)

theorem side_q (b : Nat) (k k0 v : Int) (p q : Value) (h s : Int) (w u : World) (H : NodeAt w b k0 v p q h) (hs : s = if k < k0 then 0 else 1) (hu : u.heap = w.heap) :
    Calls Try.prog 38 #[.pointer (some ⟨b, 0, none⟩), .int .i64 k] u fun e w' => e = .returned (.int .i64 s) ∧ ∃ n, w' = u.drewN n := by
  have H' : NodeAt u b k0 v p q h := by show u.heap[b]? = _; rw [hu]; exact H
  by_cases hk : k < k0
  · rw [if_pos hk] at hs
    subst hs
    exact (side_lt b k k0 v p q h u H' hk).mono fun _ _ ⟨he, hw⟩ => ⟨he, 0, hw.symm⟩
  · rw [if_neg hk] at hs
    subst hs
    exact (side_ge b k k0 v p q h u H' (by omega)).mono fun _ _ ⟨he, hw⟩ => ⟨he, 0, hw.symm⟩

set_option maxHeartbeats 2000000 in
theorem find_any (T : BT) (k : Int) (w : World) (H : Tr w T) (hs : Rise T.list) :
    Calls Try.prog 31 #[T.ptr, .int .i64 k] w (Found k T w) := by
  have HH := Lib.hid H
  have HS := Lib.hid hs
  clear H hs
  obtain ⟨p, hp⟩ := T.ptr_is
  rw [hp]
  have HP := Lib.hid hp
  clear hp
  go_enter Try.func31, Try.ntmps31
  go_wp2_with fail
  go_loopg [0] (T.list.length) (fun g p wr => ∃ T1 : BT, p = T1.ptr ∧ T1.list.length ≤ g ∧ Tr w T1 ∧ Rise T1.list ∧ (∀ x, T1.has x → T.has x) ∧ getL k T1.list = getL k T.list ∧ ∃ n, wr = w.drewN n)
  case atStart => exact ⟨T, HP.out.symm, Nat.le_refl _, HH.out, HS.out, fun _ hx => hx, rfl, 0, rfl⟩
  case round =>
    obtain ⟨T1, rfl, hg, hT, hR, hhas, hget, n, hw⟩ := hrel
    have KT := Lib.hid hT
    have KR := Lib.hid hR
    have KH := Lib.hid hhas
    have KG := Lib.hid hget
    have KW := Lib.hid hw
    have hh : Hid (wr.heap = w.heap) := by show _ = _; rw [hw]; rfl
    clear hhas hget hR
    cases T1 with
    | nil =>
      have ep : (BT.nil : BT).ptr = .pointer none := rfl
      rw [ep]
      clear hg hT hw
      go_wp2
      go_returns
      exact ⟨⟨n, KW.out⟩, .inl ⟨KG.out.symm, rfl⟩⟩
    | node b0 k0 v0 l r =>
      have ep : (BT.node b0 k0 v0 l r).ptr = .pointer (some ⟨b0, 0, none⟩) := rfl
      rw [ep]
      simp only [BT.list, List.length_append, List.length_cons] at hg
      have hc := hT.1.cells
      rw [← show wr.cell? ⟨b0, 0, none⟩ = w.cell? ⟨b0, 0, none⟩ from World.cell?_of_block (w := w) (by rw [hh.out])] at hc
      rw [← show wr.cell? ⟨b0, 2, none⟩ = w.cell? ⟨b0, 2, none⟩ from World.cell?_of_block (w := w) (by rw [hh.out])] at hc
      rw [← show wr.cell? ⟨b0, 3, none⟩ = w.cell? ⟨b0, 3, none⟩ from World.cell?_of_block (w := w) (by rw [hh.out])] at hc
      obtain ⟨c0, _, c2, c3, _⟩ := hc
      have HN := Lib.hid hT.1
      clear hT hw
      rcases Int.lt_trichotomy k k0 with hk | rfl | hk
      · have hb : (k0 == k) = false := beq_eq_false_iff_ne.2 (by omega)
        have KS : Hid (∀ u, u.heap = w.heap → Calls Try.prog 38 #[.pointer (some ⟨b0, 0, none⟩), .int .i64 k] u fun e w' => e = .returned (.int .i64 0) ∧ ∃ n, w' = u.drewN n) :=
          fun u hu => side_q b0 k k0 v0 _ _ _ 0 w u HN.out (by rw [if_pos hk]) hu
        obtain ⟨pl, hpl⟩ := l.ptr_is
        rw [hpl] at c2
        have HPL := Lib.hid hpl
        have HK := Lib.hid hk
        clear hk hpl
        go_wp2_with fail
        go_quiet (first | (go_at_call 38; exact Calls.quiet_of (KS.out _ hh.out)))
        go_wp2
        go_roundg (l.list.length)
        case measure => omega
        case rel =>
          refine ⟨l, HPL.out.symm, Nat.le_refl _, KT.out.2.1, (Rise.parts KR.out).1, fun x hx => KH.out x (.inr (.inl hx)), ?_, _, by rw [KW.out]; exact World.drewN_drewN _ _ _⟩
          rw [← KG.out]
          exact (getL_lt KR.out HK.out).symm
      · go_wp2
        go_returns
        exact ⟨⟨n, KW.out⟩, .inr ⟨b0, v0, _, _, _, rfl, HN.out, KH.out _ (.inl rfl), KG.out.symm.trans (getL_eq KR.out)⟩⟩
      · have hb : (k0 == k) = false := beq_eq_false_iff_ne.2 (by omega)
        have KS : Hid (∀ u, u.heap = w.heap → Calls Try.prog 38 #[.pointer (some ⟨b0, 0, none⟩), .int .i64 k] u fun e w' => e = .returned (.int .i64 1) ∧ ∃ n, w' = u.drewN n) :=
          fun u hu => side_q b0 k k0 v0 _ _ _ 1 w u HN.out (by rw [if_neg (by omega)]) hu
        obtain ⟨pl, hpl⟩ := r.ptr_is
        rw [hpl] at c3
        have HPL := Lib.hid hpl
        have HK := Lib.hid hk
        clear hk hpl
        go_wp2_with fail
        go_quiet (first | (go_at_call 38; exact Calls.quiet_of (KS.out _ hh.out)))
        go_wp2
        go_roundg (r.list.length)
        case measure => omega
        case rel =>
          refine ⟨r, HPL.out.symm, Nat.le_refl _, KT.out.2.2.1, (Rise.parts KR.out).2.1, fun x hx => KH.out x (.inr (.inr hx)), ?_, _, by rw [KW.out]; exact World.drewN_drewN _ _ _⟩
          rw [← KG.out]
          exact (getL_gt KR.out HK.out).symm

/-- What a call makes of a tree. -/
def Rec (T : BT) (L : List (Int × Int)) (w : World) (e : Ending) (w' : World) : Prop :=
  ∃ T' : BT, e = .returned T'.ptr ∧ Tr w' T' ∧ T'.list = L ∧ (∀ x, T'.has x → T.has x ∨ w.heap.size ≤ x) ∧ Only T.has w w'
/-- A branch has been made anew; then its node is made even. -/
def Goes (b o : Nat) (p : Value) (Q : Ending → World → Prop) (e : Ending) (w' : World) : Prop :=
  ∃ a, e = .returned (.pointer a) ∧ w'.cell? ⟨b, o, none⟩ = some p ∧ w'.frozen? ⟨b, o, none⟩ = false ∧
    Hid (∀ u, Only (fun _ => False) (w'.setCell ⟨b, o, none⟩ (.pointer a)) u → Calls Try.prog 39 #[.pointer (some ⟨b, 0, none⟩)] u Q)

theorem goes_l {f : FuncId} {args : Array Value} {b : Nat} {k v h : Int} {l r : BT} {L' : List (Int × Int)} {w u : World} (H : Half w (Tr w) b k v l r h) (hu : Only (fun _ => False) w u) (hc : Calls Try.prog f args u (Rec l L' u)) (hL : L'.length ≤ 10000) (hr : r.ht ≤ 10000) (k0 v0 : Int) :
    Calls Try.prog f args u (Goes b 2 l.ptr (Rec (.node b k0 v0 l r) (L' ++ (k, v) :: r.list) w)) := by
  refine hc.mono fun e w' ⟨T', he, hT, hL', hh, ho⟩ => ?_
  obtain ⟨a, ha⟩ := T'.ptr_is
  have hbw : b < w.heap.size := NodeAt.lt H.1
  have hsz := hu.size
  have N1 : NodeAt w' b k v l.ptr r.ptr h := (H.1.keep hu id).keep ho H.2.2.2.1
  have R1 : Tr w' r := (H.2.2.1.keep hu fun _ _ => id).keep ho fun x hx hl => H.2.2.2.2.2 x hl hx
  have nb : ¬ T'.has b := fun hx => by
    rcases hh b hx with hx | hx
    · exact H.2.2.2.1 hx
    · omega
  have nd : ∀ x, T'.has x → ¬ r.has x := fun x hx hr => by
    have := H.2.2.1.lt x hr
    rcases hh x hx with hx | hx
    · exact H.2.2.2.2.2 x hx hr
    · omega
  refine ⟨a, by rw [he, ha], N1.cells.2.2.1, N1.free.2.2.1, fun u2 hu2 => ?_⟩
  have O2 : Only (· = b) w' (w'.setCell ⟨b, 2, none⟩ (.pointer a)) := Only.set _ _ _ _
  have HX : Half (w'.setCell ⟨b, 2, none⟩ (.pointer a)) (Tr (w'.setCell ⟨b, 2, none⟩ (.pointer a))) b k v T' r h :=
    ⟨by rw [ha]; exact N1.setL _, hT.keep O2 (fun x hx e => nb (e ▸ hx)), R1.keep O2 (fun x hx e => H.2.2.2.2.1 (e ▸ hx)), nb, H.2.2.2.2.1, nd⟩
  refine (even_any b k v h T' r u2 (HX.keep hu2 fun _ _ => id) (by have := T'.ht_le; rw [hL'] at this; omega) hr).mono fun e w3 ⟨T, h1, h2, h3, h4, h5⟩ => ⟨T, h1, h2, by rw [h3, hL'], ?_, ?_⟩
  · intro x hx
    rcases h4 x hx with hx | hx | hx
    · exact .inl (.inl hx)
    · rcases hh x hx with hx | hx
      · exact .inl (.inr (.inl hx))
      · exact .inr (by omega)
    · exact .inl (.inr (.inr hx))
  · refine (((hu.nil.then ho fun x _ hx => .inr (.inl hx)).then O2 fun x _ hx => .inl hx).trans hu2.nil).then h5 fun x hw hx => ?_
    rcases hx with hx | hx | hx
    · exact .inl hx
    · rcases hh x hx with hx | hx
      · exact .inr (.inl hx)
      · omega
    · exact .inr (.inr hx)
theorem goes_r {f : FuncId} {args : Array Value} {b : Nat} {k v h : Int} {l r : BT} {L' : List (Int × Int)} {w u : World} (H : Half w (Tr w) b k v l r h) (hu : Only (fun _ => False) w u) (hc : Calls Try.prog f args u (Rec r L' u)) (hL : L'.length ≤ 10000) (hl : l.ht ≤ 10000) (k0 v0 : Int) :
    Calls Try.prog f args u (Goes b 3 r.ptr (Rec (.node b k0 v0 l r) (l.list ++ (k, v) :: L') w)) := by
  refine hc.mono fun e w' ⟨T', he, hT, hL', hh, ho⟩ => ?_
  obtain ⟨a, ha⟩ := T'.ptr_is
  have hbw : b < w.heap.size := NodeAt.lt H.1
  have hsz := hu.size
  have N1 : NodeAt w' b k v l.ptr r.ptr h := (H.1.keep hu id).keep ho H.2.2.2.2.1
  have R1 : Tr w' l := (H.2.1.keep hu fun _ _ => id).keep ho fun x hx hl => H.2.2.2.2.2 x hx hl
  have nb : ¬ T'.has b := fun hx => by
    rcases hh b hx with hx | hx
    · exact H.2.2.2.2.1 hx
    · omega
  have nd : ∀ x, l.has x → ¬ T'.has x := fun x hl hx => by
    have := H.2.1.lt x hl
    rcases hh x hx with hx | hx
    · exact H.2.2.2.2.2 x hl hx
    · omega
  refine ⟨a, by rw [he, ha], N1.cells.2.2.2.1, N1.free.2.2.2.1, fun u2 hu2 => ?_⟩
  have O2 : Only (· = b) w' (w'.setCell ⟨b, 3, none⟩ (.pointer a)) := Only.set _ _ _ _
  have HX : Half (w'.setCell ⟨b, 3, none⟩ (.pointer a)) (Tr (w'.setCell ⟨b, 3, none⟩ (.pointer a))) b k v l T' h :=
    ⟨by rw [ha]; exact N1.setR _, R1.keep O2 (fun x hx e => H.2.2.2.1 (e ▸ hx)), hT.keep O2 (fun x hx e => nb (e ▸ hx)), H.2.2.2.1, nb, nd⟩
  refine (even_any b k v h l T' u2 (HX.keep hu2 fun _ _ => id) hl (by have := T'.ht_le; rw [hL'] at this; omega)).mono fun e w3 ⟨T, h1, h2, h3, h4, h5⟩ => ⟨T, h1, h2, by rw [h3, hL'], ?_, ?_⟩
  · intro x hx
    rcases h4 x hx with hx | hx | hx
    · exact .inl (.inl hx)
    · exact .inl (.inr (.inl hx))
    · rcases hh x hx with hx | hx
      · exact .inl (.inr (.inr hx))
      · exact .inr (by omega)
  · refine (((hu.nil.then ho fun x _ hx => .inr (.inr hx)).then O2 fun x _ hx => .inl hx).trans hu2.nil).then h5 fun x hw hx => ?_
    rcases hx with hx | hx | hx
    · exact .inl hx
    · exact .inr (.inl hx)
    · rcases hh x hx with hx | hx
      · exact .inr (.inr hx)
      · omega

set_option maxHeartbeats 2000000 in
theorem with_any (k v : Int) (T : BT) : ∀ w : World, Tr w T → Rise T.list → getL k T.list = none → T.list.length ≤ 5000 → Calls Try.prog 32 #[T.ptr, .int .i64 k, .int .i64 v] w (Rec T (putL k v T.list) w) := by
  induction T with
  | nil =>
    intro w _ _ _ _
    show Calls Try.prog 32 #[.pointer none, .int .i64 k, .int .i64 v] w _
    go_enter Try.func32, Try.ntmps32
    go_wp2
    go_returns
    refine ⟨.node w.heap.size k v .nil .nil, rfl, ⟨heap_alloc_new w _, trivial, trivial, id, id, fun _ hx => hx.elim⟩, rfl, ?_, Only.alloc _ _ _⟩
    intro x hx
    rcases hx with hx | hx | hx
    · exact .inr (by omega)
    · exact hx.elim
    · exact hx.elim
  | node b k0 v0 l r ihl ihr =>
    intro w H hs hg hn
    show Calls Try.prog 32 #[.pointer (some ⟨b, 0, none⟩), .int .i64 k, .int .i64 v] w _
    have hs' : Rise (l.list ++ (k0, v0) :: r.list) := hs
    obtain ⟨s1, s2, s3, s4⟩ := hs'.parts
    have hln : l.list.length + (r.list.length + 1) ≤ 5000 := by simpa [BT.list] using hn
    have hlh := l.ht_le
    have hrh := r.ht_le
    rcases Int.lt_trichotomy k k0 with hk | rfl | hk
    · have KS := Lib.hid (fun u hu => side_q b k k0 v0 _ _ _ 0 w u H.1 (by rw [if_pos hk]) hu)
      have hg' : getL k l.list = none := (getL_lt hs' hk).symm.trans hg
      have KI : Hid (∀ u, Only (fun _ => False) w u → Calls Try.prog 32 #[l.ptr, .int .i64 k, .int .i64 v] u (Goes b 2 l.ptr (Rec (.node b k0 v0 l r) (putL k v (BT.node b k0 v0 l r).list) w))) := by
        intro u hu
        have hI := ihl u (H.2.1.keep hu fun _ _ => id) s1 hg' (by omega)
        have hG := goes_l H.half hu hI (by have := putL_len k v l.list; omega) (by omega) k0 v0
        rwa [show putL k v l.list ++ (k0, v0) :: r.list = putL k v (BT.node b k0 v0 l r).list from (putL_lt hs' hk).symm] at hG
      have hc := H.1.cells.2.2.1
      obtain ⟨pp, hpp⟩ := l.ptr_is
      rw [hpp] at KI hc
      clear ihl ihr hs hs' s1 s2 s3 s4 hln hlh hrh hk hg' hpp hg hn
      go_enter Try.func32, Try.ntmps32
      go_wp2_with (go_at_call 38; refine (KS.out _ rfl).mono ?_; rintro e w1 ⟨rfl, n, hw⟩; have KO : Hid (Only (fun _ => False) w w1) := (by show Only _ _ _; rw [hw]; exact Only.drewN _ _ _); have d2 : w1.cell? ⟨b, 2, none⟩ = some (.pointer pp) := (by rw [hw]; exact hc); clear hw)
      go_region_with (first
          | (go_at_call 32; (with_reducible refine (KI.out _ ?_).mono ?_); (focus exact KO.out.drew); rintro e X1 ⟨a, rfl, y1, y2, KN⟩))
      go_wp2_with fail
      refine (KN.out _ ?_).mono ?_
      · first | exact Only.refl _ _ | exact (Only.refl _ _).drew
      rintro e X2 ⟨T, rfl, hT⟩
      have KT := Lib.hid hT
      clear hT
      go_wp2
      go_returns
      exact ⟨T, rfl, KT.out⟩
    · exact absurd rfl (getL_none hg (k, v0) (by simp [BT.list]))
    · have KS := Lib.hid (fun u hu => side_q b k k0 v0 _ _ _ 1 w u H.1 (by rw [if_neg (by omega)]) hu)
      have hg' : getL k r.list = none := (getL_gt hs' hk).symm.trans hg
      have KI : Hid (∀ u, Only (fun _ => False) w u → Calls Try.prog 32 #[r.ptr, .int .i64 k, .int .i64 v] u (Goes b 3 r.ptr (Rec (.node b k0 v0 l r) (putL k v (BT.node b k0 v0 l r).list) w))) := by
        intro u hu
        have hI := ihr u (H.2.2.1.keep hu fun _ _ => id) s2 hg' (by omega)
        have hG := goes_r H.half hu hI (by have := putL_len k v r.list; omega) (by omega) k0 v0
        rwa [show l.list ++ (k0, v0) :: putL k v r.list = putL k v (BT.node b k0 v0 l r).list from (putL_gt hs' hk).symm] at hG
      have hc := H.1.cells.2.2.2.1
      obtain ⟨pp, hpp⟩ := r.ptr_is
      rw [hpp] at KI hc
      clear ihl ihr hs hs' s1 s2 s3 s4 hln hlh hrh hk hg' hpp hg hn
      go_enter Try.func32, Try.ntmps32
      go_wp2_with (go_at_call 38; refine (KS.out _ rfl).mono ?_; rintro e w1 ⟨rfl, n, hw⟩; have KO : Hid (Only (fun _ => False) w w1) := (by show Only _ _ _; rw [hw]; exact Only.drewN _ _ _); have d2 : w1.cell? ⟨b, 3, none⟩ = some (.pointer pp) := (by rw [hw]; exact hc); clear hw)
      go_region_with (first
          | (go_at_call 32; (with_reducible refine (KI.out _ ?_).mono ?_); (focus exact KO.out.drew); rintro e X1 ⟨a, rfl, y1, y2, KN⟩))
      go_wp2_with fail
      refine (KN.out _ ?_).mono ?_
      · first | exact Only.refl _ _ | exact (Only.refl _ _).drew
      rintro e X2 ⟨T, rfl, hT⟩
      have KT := Lib.hid hT
      clear hT
      go_wp2
      go_returns
      exact ⟨T, rfl, KT.out⟩
end Go.Proofs.Ytkieifkbkmdgdaa
