/-
  THE PROGRAM's BOOK: New, Put, Get, Del, Len; of nil. Of at most five thousand keys.
-/
import Derived.Test.YtkieifkbkmdgdaaBookX
namespace Go.Proofs.Ytkieifkbkmdgdaa
open Go.RowKit

/-- Block B is a book of the top p with n keys. -/
def BkAt (w : World) (B : Nat) (p : Value) (n : Int) : Prop := w.heap[B]? = some (.cells #[p, .int .i64 n] 49 (0, 0))
theorem BkAt.cells {w : World} {B : Nat} {p : Value} {n : Int} (H : BkAt w B p n) :
    w.cell? ⟨B, 0, none⟩ = some p ∧ w.cell? ⟨B, 1, none⟩ = some (.int .i64 n) ∧ w.frozen? ⟨B, 0, none⟩ = false ∧ w.frozen? ⟨B, 1, none⟩ = false := by
  have H' : w.heap[B]? = some (.cells #[p, .int .i64 n] 49 (0, 0)) := H
  refine ⟨?_, ?_, ?_, ?_⟩ <;> simp [World.cell?, World.frozen?, H']
theorem BkAt.lt {w : World} {B : Nat} {p : Value} {n : Int} (H : BkAt w B p n) : B < w.heap.size := lt_of_block H
theorem BkAt.keep {S : Nat → Prop} {w w' : World} {B : Nat} {p : Value} {n : Int} (H : BkAt w B p n) (ho : Only S w w') (hn : ¬ S B) : BkAt w' B p n := (ho.block B H.lt hn).trans H
theorem BkAt.setP {w : World} {B : Nat} {p : Value} {n : Int} (H : BkAt w B p n) (x : Value) : BkAt (w.setCell ⟨B, 0, none⟩ x) B x n := by
  show (w.setCell _ _).heap[B]? = _
  rw [heap_setCell_same _ _ _ _ _ _ H]; rfl
theorem BkAt.setN {w : World} {B : Nat} {p : Value} {n : Int} (H : BkAt w B p n) (x : Int) : BkAt (w.setCell ⟨B, 1, none⟩ (.int .i64 x)) B p x := by
  show (w.setCell _ _).heap[B]? = _
  rw [heap_setCell_same _ _ _ _ _ _ H]; rfl
theorem BkAt.drew {w : World} {B : Nat} {p : Value} {n : Int} (H : BkAt w B p n) : BkAt w.drew B p n := H
theorem BkAt.drewN {w : World} {B : Nat} {p : Value} {n : Int} (H : BkAt w B p n) (k : Nat) : BkAt (w.drewN k) B p n := H

/-- The blocks of a book. -/
def blks (B : Nat) (T : BT) (x : Nat) : Prop := x = B ∨ T.has x
/-- Block B is a book with the tree T. -/
def Bk (w : World) (B : Nat) (T : BT) : Prop := BkAt w B T.ptr T.list.length ∧ Tr w T ∧ Rise T.list ∧ ¬ T.has B
theorem Bk.keep {S : Nat → Prop} {w w' : World} {B : Nat} {T : BT} (H : Bk w B T) (ho : Only S w w') (hn : ∀ x, blks B T x → ¬ S x) : Bk w' B T :=
  ⟨H.1.keep ho (hn B (.inl rfl)), H.2.1.keep ho fun x hx => hn x (.inr hx), H.2.2.1, H.2.2.2⟩
theorem Bk.quiet {w w' : World} {B : Nat} {T : BT} (H : Bk w B T) (ho : Only (fun _ => False) w w') : Bk w' B T := H.keep ho fun _ _ => id
theorem Bk.lt {w : World} {B : Nat} {T : BT} (H : Bk w B T) : ∀ x, blks B T x → x < w.heap.size := by
  rintro x (rfl | hx)
  · exact H.1.lt
  · exact H.2.1.lt x hx

/-- A book has been turned: it has the list L. -/
def BkR (B : Nat) (T : BT) (L : List (Int × Int)) (w w' : World) : Prop :=
  ∃ T' : BT, Bk w' B T' ∧ T'.list = L ∧ (∀ x, T'.has x → T.has x ∨ w.heap.size ≤ x) ∧ Only (blks B T) w w'

set_option maxHeartbeats 400000 in
theorem bnew_any (w : World) : Calls Try.prog 7 #[] w fun e w' => e = .returned (.pointer (some ⟨w.heap.size, 0, none⟩)) ∧ Bk w' w.heap.size .nil ∧ Below w.heap.size w w' := by
  go_enter Try.func7, Try.ntmps7
  go_wp2
  go_returns
  exact ⟨rfl, ⟨heap_alloc_new w _, trivial, List.Pairwise.nil, id⟩, (Below.refl _ _).alloc (Nat.le_refl _) _⟩

/-- What had and whether. -/
def gv (o : Option Int) : Int := o.getD 0
def BPutR (B : Nat) (T : BT) (k v : Int) (w : World) (e : Ending) (w' : World) : Prop :=
  e = .returned (.tuple #[.int .i64 (gv (getL k T.list)), .bool (getL k T.list).isSome]) ∧ BkR B T (putL k v T.list) w w'

set_option maxHeartbeats 2000000 in
theorem tput_any (B : Nat) (T : BT) (k v : Int) (w : World) (H : Bk w B T) (hn : T.list.length ≤ 5000) : Calls Try.prog 24 #[.pointer (some ⟨B, 0, none⟩), .int .i64 k, .int .i64 v] w (BPutR B T k v w) := by
  have KF := Lib.hid (find_any T k w H.2.1 H.2.2.1)
  obtain ⟨c0, c1, z0, z1⟩ := H.1.cells
  have HH := Lib.hid H
  have HN := Lib.hid hn
  obtain ⟨p, hp⟩ := T.ptr_is
  rw [hp] at KF c0
  cases hg : getL k T.list with
  | some v0 =>
    have KF2 : Hid (Calls Try.prog 31 #[.pointer p, .int .i64 k] w fun e w' => ∃ b, e = .returned (.pointer (some ⟨b, 0, none⟩)) ∧ w'.cell? ⟨b, 1, none⟩ = some (.int .i64 v0) ∧ w'.frozen? ⟨b, 1, none⟩ = false ∧ Hid (BkR B T (putL k v T.list) w (w'.setCell ⟨b, 1, none⟩ (.int .i64 v)))) := by
      refine KF.out.mono fun e w' ⟨⟨n, hw⟩, hr⟩ => ?_
      rcases hr with ⟨h1, _⟩ | ⟨b, v1, q1, q2, h, he, hN, hh, hv⟩
      · rw [hg] at h1; cases h1
      · rw [hg] at hv
        obtain rfl : v0 = v1 := by simpa using hv
        subst hw
        refine ⟨b, he, hN.cells.2.1, hN.free.2.1, ?_⟩
        obtain ⟨T', e1, e2, e3, e4, e5⟩ := Tr.setV (hN.drewN n) v (HH.out.2.1.keep (Only.drewN (fun _ => False) w n) fun _ _ => id) HH.out.2.2.1 hh
        have hb : B ≠ b := fun e => HH.out.2.2.2 (e ▸ hh)
        refine ⟨T', ⟨?_, e3, by rw [e4]; exact HH.out.2.2.1.put k v, fun hx => HH.out.2.2.2 ((e5 _).1 hx)⟩, e4, fun x hx => .inl ((e5 x).1 hx), ((Only.drewN _ w n).then (Only.set b 1 _ _) fun x _ hx => .inr (hx ▸ hh))⟩
        rw [e1, e4, putL_old HH.out.2.2.1 hg]
        exact (HH.out.1.drewN n).keep (Only.set b 1 _ _) hb
    have HG := Lib.hid hg
    clear H hn hp hg KF
    go_enter Try.func24, Try.ntmps24
    go_wp2_with (go_at_call 31; refine KF2.out.mono ?_; rintro e w1 ⟨b, rfl, d1, y1, HR⟩)
    go_returns
    exact ⟨by rw [HG.out]; rfl, HR.out⟩
  | none =>
    have KF2 : Hid (Calls Try.prog 31 #[.pointer p, .int .i64 k] w fun e w' => e = .returned (.pointer none) ∧ ∃ n, w' = w.drewN n) := by
      refine KF.out.mono fun e w' ⟨hw, hr⟩ => ?_
      rcases hr with ⟨_, he⟩ | ⟨b, v1, q1, q2, h, he, hN, hh, hv⟩
      · exact ⟨he, hw⟩
      · rw [hg] at hv; cases hv
    have KW : Hid (∀ u, Only (fun _ => False) w u → Calls Try.prog 32 #[.pointer p, .int .i64 k, .int .i64 v] u fun e w' => ∃ a, e = .returned (.pointer a) ∧ BkAt w' B (.pointer p) T.list.length ∧ Hid (BkR B T (putL k v T.list) w ((w'.setCell ⟨B, 0, none⟩ (.pointer a)).setCell ⟨B, 1, none⟩ (.int .i64 ((T.list.length : Int) + 1))))) := by
      intro u hu
      have hc := with_any k v T u (HH.out.2.1.keep hu fun _ _ => id) HH.out.2.2.1 hg HN.out
      rw [hp] at hc
      refine hc.mono fun e w' ⟨T', he, hT, hL, hh, ho⟩ => ?_
      obtain ⟨a, ha⟩ := T'.ptr_is
      have hBw : B < w.heap.size := HH.out.1.lt
      have hsz := hu.size
      have nB : ¬ T'.has B := fun hx => by
        rcases hh B hx with hx | hx
        · exact HH.out.2.2.2 hx
        · omega
      have A1 : BkAt w' B (.pointer p) T.list.length := by
        rw [← hp]
        exact (HH.out.1.keep hu id).keep ho HH.out.2.2.2
      refine ⟨a, by rw [he, ha], A1, T', ⟨?_, ?_, by rw [hL]; exact HH.out.2.2.1.put k v, nB⟩, hL, fun x hx => ?_, ?_⟩
      · rw [hL, putL_new hg, ha]
        exact (A1.setP _).setN _
      · have O : Only (· = B) w' ((w'.setCell ⟨B, 0, none⟩ (.pointer a)).setCell ⟨B, 1, none⟩ (.int .i64 ((T.list.length : Int) + 1))) := (Only.set B 0 _ _).trans (Only.set B 1 _ _)
        exact hT.keep O fun x hx e => nB (e ▸ hx)
      · rcases hh x hx with hx | hx
        · exact .inl hx
        · exact .inr (by omega)
      · exact ((hu.nil.then ho fun x _ hx => .inr hx).then (Only.set B 0 _ _) fun x _ hx => .inl hx).then (Only.set B 1 _ _) fun x _ hx => .inl hx
    have HG := Lib.hid hg
    obtain ⟨m, hm⟩ : ∃ m, m = T.list.length := ⟨_, rfl⟩
    rw [← hm] at KW c1 hn
    have sm : IntKind.i64.wrap ((m : Int) + 1) = (m : Int) + 1 := IntWalk.i64_in _ (by omega)
    clear H hp hg KF hm
    go_enter Try.func24, Try.ntmps24
    go_wp2_with (first
      | (go_at_call 31; refine KF2.out.mono ?_; rintro e w1 ⟨rfl, n, hw⟩; have KO : Hid (Only (fun _ => False) w w1) := (by show Only _ _ _; rw [hw]; exact Only.drewN _ _ _); have e0 : w1.cell? ⟨B, 0, none⟩ = some (.pointer p) := (by rw [hw]; exact c0); clear hw)
      | (go_at_call 32; refine (KW.out _ KO.out).mono ?_; rintro e w2 ⟨a, rfl, hA, HR⟩; obtain ⟨f0, f1, y0, y1⟩ := hA.cells; clear hA))
    go_returns
    exact ⟨by rw [HG.out]; rfl, HR.out⟩

set_option maxHeartbeats 1000000 in
theorem bput_any (B : Nat) (T : BT) (k v : Int) (w : World) (H : Bk w B T) (hn : T.list.length ≤ 5000) : Calls Try.prog 8 #[.pointer (some ⟨B, 0, none⟩), .int .i64 k, .int .i64 v] w (BPutR B T k v w) := by
  have KF := Lib.hid (tput_any B T k v w H hn)
  clear H hn
  go_enter Try.func8, Try.ntmps8
  go_wp2_with (go_at_call 24; refine KF.out.mono ?_; rintro e w1 ⟨rfl, hr⟩; have HR := Lib.hid hr; clear hr)
  go_returns
  exact ⟨rfl, HR.out⟩

/-- What Get tells. -/
def BGetR (T : BT) (k : Int) (w : World) (e : Ending) (w' : World) : Prop :=
  e = .returned (.tuple #[.int .i64 (gv (getL k T.list)), .bool (getL k T.list).isSome]) ∧ ∃ n, w' = w.drewN n
set_option maxHeartbeats 2000000 in
theorem tget_any (B : Nat) (T : BT) (k : Int) (w : World) (H : Bk w B T) : Calls Try.prog 27 #[.pointer (some ⟨B, 0, none⟩), .int .i64 k] w (BGetR T k w) := by
  have KF := Lib.hid (find_any T k w H.2.1 H.2.2.1)
  obtain ⟨c0, c1, z0, z1⟩ := H.1.cells
  obtain ⟨p, hp⟩ := T.ptr_is
  rw [hp] at KF c0
  clear H
  cases hg : getL k T.list with
  | some v0 =>
    have KF2 : Hid (Calls Try.prog 31 #[.pointer p, .int .i64 k] w fun e w' => ∃ b, e = .returned (.pointer (some ⟨b, 0, none⟩)) ∧ w'.cell? ⟨b, 1, none⟩ = some (.int .i64 v0) ∧ ∃ n, Hid (w' = w.drewN n)) := by
      refine KF.out.mono fun e w' ⟨⟨n, hw⟩, hr⟩ => ?_
      rcases hr with ⟨h1, _⟩ | ⟨b, v1, q1, q2, h, he, hN, hh, hv⟩
      · rw [hg] at h1; cases h1
      · rw [hg] at hv
        obtain rfl : v0 = v1 := by simpa using hv
        exact ⟨b, he, by rw [hw]; exact hN.cells.2.1, n, hw⟩
    have HG := Lib.hid hg
    clear hp hg KF
    go_enter Try.func27, Try.ntmps27
    go_wp2_with (go_at_call 31; refine KF2.out.mono ?_; rintro e w1 ⟨b, rfl, d1, n, HW⟩)
    go_returns
    exact ⟨by rw [HG.out]; rfl, n, HW.out⟩
  | none =>
    have KF2 : Hid (Calls Try.prog 31 #[.pointer p, .int .i64 k] w fun e w' => e = .returned (.pointer none) ∧ ∃ n, Hid (w' = w.drewN n)) := by
      refine KF.out.mono fun e w' ⟨hw, hr⟩ => ?_
      rcases hr with ⟨_, he⟩ | ⟨b, v1, q1, q2, h, he, hN, hh, hv⟩
      · exact ⟨he, hw⟩
      · rw [hg] at hv; cases hv
    have HG := Lib.hid hg
    clear hp hg KF
    go_enter Try.func27, Try.ntmps27
    go_wp2_with (go_at_call 31; refine KF2.out.mono ?_; rintro e w1 ⟨rfl, n, HW⟩)
    go_returns
    exact ⟨by rw [HG.out]; rfl, n, HW.out⟩
set_option maxHeartbeats 1000000 in
theorem bget_any (B : Nat) (T : BT) (k : Int) (w : World) (H : Bk w B T) : Calls Try.prog 12 #[.pointer (some ⟨B, 0, none⟩), .int .i64 k] w (BGetR T k w) := by
  have KF := Lib.hid (tget_any B T k w H)
  clear H
  go_enter Try.func12, Try.ntmps12
  go_wp2_with (go_at_call 27; refine KF.out.mono ?_; rintro e w1 ⟨rfl, hr⟩; have HR := Lib.hid hr; clear hr)
  go_returns
  exact ⟨rfl, HR.out⟩

/-- What Del makes and tells. -/
def BDelR (B : Nat) (T : BT) (k : Int) (w : World) (e : Ending) (w' : World) : Prop :=
  e = .returned (.bool (getL k T.list).isSome) ∧ BkR B T (delL k T.list) w w'
set_option maxHeartbeats 2000000 in
theorem tdel_any (B : Nat) (T : BT) (k : Int) (w : World) (H : Bk w B T) (hn : T.list.length ≤ 5000) : Calls Try.prog 26 #[.pointer (some ⟨B, 0, none⟩), .int .i64 k] w (BDelR B T k w) := by
  have KF := Lib.hid (find_any T k w H.2.1 H.2.2.1)
  obtain ⟨c0, c1, z0, z1⟩ := H.1.cells
  have HH := Lib.hid H
  have HN := Lib.hid hn
  obtain ⟨p, hp⟩ := T.ptr_is
  rw [hp] at KF c0
  cases hg : getL k T.list with
  | none =>
    have KF2 : Hid (Calls Try.prog 31 #[.pointer p, .int .i64 k] w fun e w' => e = .returned (.pointer none) ∧ ∃ n, Hid (w' = w.drewN n)) := by
      refine KF.out.mono fun e w' ⟨hw, hr⟩ => ?_
      rcases hr with ⟨_, he⟩ | ⟨b, v1, q1, q2, h, he, hN, hh, hv⟩
      · exact ⟨he, hw⟩
      · rw [hg] at hv; cases hv
    have HG := Lib.hid hg
    clear hp hg KF H
    go_enter Try.func26, Try.ntmps26
    go_wp2_with (go_at_call 31; refine KF2.out.mono ?_; rintro e w1 ⟨rfl, n, HW⟩)
    go_returns
    refine ⟨by rw [HG.out]; rfl, T, ?_, (delL_no HG.out).symm, fun x hx => .inl hx, ?_⟩
    · rw [HW.out]
      exact HH.out.quiet (Only.drewN _ _ _)
    · rw [HW.out]
      exact Only.drewN _ _ _
  | some v0 =>
    have KF2 : Hid (Calls Try.prog 31 #[.pointer p, .int .i64 k] w fun e w' => ∃ b, e = .returned (.pointer (some ⟨b, 0, none⟩)) ∧ ∃ n, w' = w.drewN n) := by
      refine KF.out.mono fun e w' ⟨hw, hr⟩ => ?_
      rcases hr with ⟨h1, _⟩ | ⟨b, v1, q1, q2, h, he, hN, hh, hv⟩
      · rw [hg] at h1; cases h1
      · exact ⟨b, he, hw⟩
    have KW : Hid (∀ u, Only (fun _ => False) w u → Calls Try.prog 33 #[.pointer p, .int .i64 k] u fun e w' => ∃ a, e = .returned (.pointer a) ∧ BkAt w' B (.pointer p) T.list.length ∧ Hid (BkR B T (delL k T.list) w ((w'.setCell ⟨B, 0, none⟩ (.pointer a)).setCell ⟨B, 1, none⟩ (.int .i64 ((T.list.length : Int) - 1))))) := by
      intro u hu
      have hc := without_any T k u (HH.out.2.1.keep hu fun _ _ => id) HH.out.2.2.1 (by rw [hg]; exact fun e => by cases e) HN.out
      rw [hp] at hc
      refine hc.mono fun e w' ⟨T', he, hT, hL, hh, ho⟩ => ?_
      obtain ⟨a, ha⟩ := T'.ptr_is
      have hBw : B < w.heap.size := HH.out.1.lt
      have hsz := hu.size
      have nB : ¬ T'.has B := fun hx => by
        rcases hh B hx with hx | hx
        · exact HH.out.2.2.2 hx
        · omega
      have A1 : BkAt w' B (.pointer p) T.list.length := by
        rw [← hp]
        exact (HH.out.1.keep hu id).keep ho HH.out.2.2.2
      refine ⟨a, by rw [he, ha], A1, T', ⟨?_, ?_, by rw [hL]; exact HH.out.2.2.1.del k, nB⟩, hL, fun x hx => ?_, ?_⟩
      · have e : (T.list.length : Int) - 1 = ((delL k T.list).length : Int) := by have := delL_had HH.out.2.2.1 hg; omega
        rw [hL, e, ha]
        exact (A1.setP _).setN _
      · have O : Only (· = B) w' ((w'.setCell ⟨B, 0, none⟩ (.pointer a)).setCell ⟨B, 1, none⟩ (.int .i64 ((T.list.length : Int) - 1))) := (Only.set B 0 _ _).trans (Only.set B 1 _ _)
        exact hT.keep O fun x hx e => nB (e ▸ hx)
      · rcases hh x hx with hx | hx
        · exact .inl hx
        · exact .inr (by omega)
      · exact ((hu.nil.then ho fun x _ hx => .inr hx).then (Only.set B 0 _ _) fun x _ hx => .inl hx).then (Only.set B 1 _ _) fun x _ hx => .inl hx
    have HG := Lib.hid hg
    obtain ⟨m, hm⟩ : ∃ m, m = T.list.length := ⟨_, rfl⟩
    rw [← hm] at KW c1 hn
    have sm : IntKind.i64.wrap ((m : Int) - 1) = (m : Int) - 1 := IntWalk.i64_in _ (by omega)
    clear H hp hg KF hm
    go_enter Try.func26, Try.ntmps26
    go_wp2_with (first
      | (go_at_call 31; refine KF2.out.mono ?_; rintro e w1 ⟨b, rfl, n, hw⟩; have KO : Hid (Only (fun _ => False) w w1) := (by show Only _ _ _; rw [hw]; exact Only.drewN _ _ _); have e0 : w1.cell? ⟨B, 0, none⟩ = some (.pointer p) := (by rw [hw]; exact c0); clear hw)
      | (go_at_call 33; refine (KW.out _ KO.out).mono ?_; rintro e w2 ⟨a, rfl, hA, HR⟩; obtain ⟨f0, f1, y0, y1⟩ := hA.cells; clear hA))
    go_returns
    exact ⟨by rw [HG.out]; rfl, HR.out⟩
set_option maxHeartbeats 1000000 in
theorem bdel_any (B : Nat) (T : BT) (k : Int) (w : World) (H : Bk w B T) (hn : T.list.length ≤ 5000) : Calls Try.prog 10 #[.pointer (some ⟨B, 0, none⟩), .int .i64 k] w (BDelR B T k w) := by
  have KF := Lib.hid (tdel_any B T k w H hn)
  clear H hn
  go_enter Try.func10, Try.ntmps10
  go_wp2_with (go_at_call 26; refine KF.out.mono ?_; rintro e w1 ⟨rfl, hr⟩; have HR := Lib.hid hr; clear hr)
  go_returns
  exact ⟨rfl, HR.out⟩
set_option maxHeartbeats 1000000 in
theorem blen_any (B : Nat) (T : BT) (w : World) (H : Bk w B T) : Calls Try.prog 20 #[.pointer (some ⟨B, 0, none⟩)] w fun e w' => e = .returned (.int .i64 T.list.length) ∧ w = w' := by
  obtain ⟨c0, c1, _, _⟩ := H.1.cells
  clear H
  go_enter Try.func20, Try.ntmps20
  go_wp2
  go_returns
  exact ⟨rfl, rfl⟩

set_option maxHeartbeats 400000 in
theorem bput_nil (k v : Int) (w : World) : Calls Try.prog 8 #[.pointer none, .int .i64 k, .int .i64 v] w fun e w' => e = .returned (.tuple #[.int .i64 0, .bool false]) ∧ w = w' := by
  go_enter Try.func8, Try.ntmps8
  go_wp2
  go_returns
  exact ⟨rfl, rfl⟩
set_option maxHeartbeats 400000 in
theorem bget_nil (k : Int) (w : World) : Calls Try.prog 12 #[.pointer none, .int .i64 k] w fun e w' => e = .returned (.tuple #[.int .i64 0, .bool false]) ∧ w = w' := by
  go_enter Try.func12, Try.ntmps12
  go_wp2
  go_returns
  exact ⟨rfl, rfl⟩
set_option maxHeartbeats 400000 in
theorem bdel_nil (k : Int) (w : World) : Calls Try.prog 10 #[.pointer none, .int .i64 k] w fun e w' => e = .returned (.bool false) ∧ w = w' := by
  go_enter Try.func10, Try.ntmps10
  go_wp2
  trace_state
  go_returns
  exact ⟨rfl, rfl⟩
set_option maxHeartbeats 400000 in
theorem blen_nil (w : World) : Calls Try.prog 20 #[.pointer none] w fun e w' => e = .returned (.int .i64 0) ∧ w = w' := by
  go_enter Try.func20, Try.ntmps20
  go_wp2
  go_returns
  exact ⟨rfl, rfl⟩
end Go.Proofs.Ytkieifkbkmdgdaa
