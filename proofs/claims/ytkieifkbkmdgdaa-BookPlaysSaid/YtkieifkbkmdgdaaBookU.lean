/-
  A TABLE AS A TREE IN MEMORY: raise on the other side; the last node; even. No condition.
-/
import Derived.Test.YtkieifkbkmdgdaaBookT
namespace Go.Proofs.Ytkieifkbkmdgdaa
open Go.RowKit

/-- What raise makes of a node and its branch above. -/
theorem raise_r (b : Nat) (k v h : Int) (b' : Nat) (k' v' : Int) (l l' r' : BT) (w : World) (H : Half w (Tr w) b k v l (.node b' k' v' l' r') h) (hl : l'.ht ≤ 100000) (hr' : r'.ht ≤ 100000) (hl0 : l.ht ≤ 100000) :
    Calls Try.prog 42 #[.pointer (some ⟨b, 0, none⟩), .int .i64 1] w fun e w' => e = .returned (.pointer (some ⟨b', 0, none⟩)) ∧ Tr w' (.node b' k' v' (.node b k v l l') r') ∧ Only (fun x => x = b ∨ x = b') w w' := by
  obtain ⟨HN, HR, ⟨HN', HL, HR', n1, n2, n3⟩, n5, n4, n6⟩ := H
  obtain ⟨_, _, c2, c3, _⟩ := HN.cells
  obtain ⟨_, _, z2, z3, _⟩ := HN.free
  obtain ⟨_, _, d2, d3, _⟩ := HN'.cells
  obtain ⟨_, _, y2, y3, _⟩ := HN'.free
  have c3' : w.cell? ⟨b, 3, none⟩ = some (.pointer (some ⟨b', 0, none⟩)) := c3
  have hne : b ≠ b' := fun e => n4 (.inl e)
  have q1 : (b == b') = false := beq_eq_false_iff_ne.2 hne
  have su : IntKind.i64.wrap 1 = 1 := by decide
  have su0 : IntKind.i64.wrap 0 = 0 := by decide
  have K1 := Lib.hid HN
  have K2 := Lib.hid HN'
  have K3 := Lib.hid HL
  have K4 := Lib.hid HR'
  have K5 := Lib.hid HR
  have M1 := Lib.hid n1
  have M2 := Lib.hid n2
  have M3 := Lib.hid n3
  have M4 := Lib.hid n4
  have M5 := Lib.hid n5
  have M6 := Lib.hid n6
  clear c3 HN HN' HL HR' HR n1 n2 n3 n4 n5 n6
  obtain ⟨pl, hpl⟩ := l'.ptr_is
  rw [hpl] at d2
  have HP := Lib.hid hpl
  clear hpl
  go_enter Try.func42, Try.ntmps42
  go_wp2_with fail
  go_region
  have HB' : Hid (∀ x, (x = b ∨ x = b') → ¬ l.has x ∧ ¬ r'.has x ∧ ¬ l'.has x) := by
    rintro x (rfl | rfl)
    · exact ⟨M5.out, fun hx => M4.out (.inr (.inr hx)), fun hx => M4.out (.inr (.inl hx))⟩
    · exact ⟨fun hx => M6.out _ hx (.inl rfl), M2.out, M1.out⟩
  obtain ⟨W1, hW, O1, A1, B1⟩ : ∃ W1, W1 = ((w.setCell ⟨b, 3, none⟩ (.pointer pl)).setCell ⟨b', 2, none⟩ (.pointer (some ⟨b, 0, none⟩))).drew ∧ Only (fun x => x = b ∨ x = b') w W1 ∧ NodeAt W1 b k v l.ptr (.pointer pl) h ∧ NodeAt W1 b' k' v' (.pointer (some ⟨b, 0, none⟩)) r'.ptr ((1 + max l'.ht r'.ht : Nat) : Int) :=
    ⟨_, rfl, (((Only.set b 3 w _).mono fun _ _ hx => .inl hx).then (Only.set b' 2 _ _) fun _ _ hx => .inr hx).drew,
      ((K1.out.setR _).keep (Only.set b' 2 _ _) hne).drew, ((K2.out.keep (Only.set b 3 w _) (fun e => hne e.symm)).setL _).drew⟩
  rw [← hW]
  have KO := Lib.hid O1
  have KB := Lib.hid B1
  have T1 := Lib.hid (Tr.keep O1 K3.out fun x hx hb => (HB'.out x hb).2.2 hx)
  have T2 := Lib.hid (Tr.keep O1 K4.out fun x hx hb => (HB'.out x hb).2.1 hx)
  have T3 := Lib.hid (Tr.keep O1 K5.out fun x hx hb => (HB'.out x hb).1 hx)
  have X1 := T1.out.hgt
  rw [HP.out] at X1
  have HM := Lib.hid (measure_any b k v l.ptr (.pointer pl) h l.ht l'.ht W1 A1 T3.out.hgt X1 ⟨by omega, by omega⟩ ⟨by omega, by omega⟩)
  clear hW O1 A1 B1 K1 K2 K3 K4 K5 c3' c2 d2 d3 z2 z3 y2 y3 X1
  go_wp2_with fail
  refine HM.out.mono ?_
  rintro e W2 ⟨⟨u, rfl⟩, O2, A2⟩
  have KO2 : Hid (Only (fun x => x = b ∨ x = b') w W2) := KO.out.then O2 fun _ _ hx => .inl hx
  have B2 := KB.out.keep O2 (fun e => hne e.symm)
  have S1 := Lib.hid (Tr.keep O2 T1.out fun x hx hb => (HB'.out x (.inl hb)).2.2 hx)
  have S2 := Lib.hid (Tr.keep O2 T2.out fun x hx hb => (HB'.out x (.inl hb)).2.1 hx)
  have S3 := Lib.hid (Tr.keep O2 T3.out fun x hx hb => (HB'.out x (.inl hb)).1 hx)
  have KA := Lib.hid A2
  have HM2 := Lib.hid (measure_any b' k' v' (.pointer (some ⟨b, 0, none⟩)) r'.ptr _ (1 + max (l.ht : Int) l'.ht) r'.ht W2 B2 (.inr ⟨_, _, _, _, _, rfl, A2⟩) S2.out.hgt ⟨by omega, by omega⟩ ⟨by omega, by omega⟩)
  clear O2 A2 B2 KO KB T1 T2 T3 HM
  go_wp2_with fail
  refine HM2.out.mono ?_
  rintro e W3 ⟨⟨u2, rfl⟩, O3, A3⟩
  have KO3 : Hid (Only (fun x => x = b ∨ x = b') w W3) := KO2.out.then O3 fun _ _ hx => .inr hx
  have KA2 := Lib.hid (KA.out.keep O3 hne)
  have U1 := Lib.hid (Tr.keep O3 S1.out fun x hx hb => (HB'.out x (.inr hb)).2.2 hx)
  have U2 := Lib.hid (Tr.keep O3 S2.out fun x hx hb => (HB'.out x (.inr hb)).2.1 hx)
  have U3 := Lib.hid (Tr.keep O3 S3.out fun x hx hb => (HB'.out x (.inr hb)).1 hx)
  have KA3 := Lib.hid A3
  clear O3 A3 KO2 S1 S2 S3 HM2 KA
  go_wp2
  go_returns
  refine ⟨rfl, ⟨?_, ⟨?_, U3.out, U1.out, M5.out, fun hx => M4.out (.inr (.inl hx)), fun x hl hx => M6.out x hl (.inr (.inl hx))⟩, U2.out, ?_, M2.out, ?_⟩, KO3.out⟩
  · have h := KA3.out
    have e : (1 + max (1 + max (l.ht : Int) l'.ht) (r'.ht : Int)) = ((1 + max (BT.node b k v l l').ht r'.ht : Nat) : Int) := by simp only [BT.ht]; omega
    rw [e] at h
    exact h
  · have h := KA2.out
    rw [← HP.out] at h
    have e : (1 + max (l.ht : Int) l'.ht) = ((1 + max l.ht l'.ht : Nat) : Int) := by omega
    rw [e] at h
    exact h
  · rintro (e | hx | hx)
    · exact hne e.symm
    · exact M6.out _ hx (.inl rfl)
    · exact M1.out hx
  · rintro x (rfl | hy | hy) hx
    · exact M4.out (.inr (.inr hx))
    · exact M6.out x hy (.inr (.inr hx))
    · exact M3.out x hy hx

/-- A tree whose top's height may be wrong. -/
def BT.top : BT → Option (Int × Int)
  | .nil => none
  | .node _ k v _ _ => some (k, v)

theorem last_in {α : Type} (x : α) (y : α) (A B C : List α) : (A ++ y :: B).getLast? = (C ++ x :: (A ++ y :: B)).getLast? := by
  rw [List.getLast?_append, List.getLast?_append, List.getLast?_cons (a := x), List.getLast?_append]
  cases h : (y :: B).getLast? with
  | none => simp at h
  | some z => simp
set_option maxHeartbeats 1000000 in
theorem last_any (b : Nat) (k v : Int) (l r : BT) (w : World) (H : Tr w (.node b k v l r)) :
    Calls Try.prog 40 #[.pointer (some ⟨b, 0, none⟩)] w fun e w' => (∃ b1 k1 v1 p q h, e = .returned (.pointer (some ⟨b1, 0, none⟩)) ∧ (BT.node b k v l r).has b1 ∧ NodeAt w b1 k1 v1 p q h ∧ (BT.node b k v l r).list.getLast? = some (k1, v1)) ∧ ∃ n, w' = w.drewN n := by
  have HH := Lib.hid H
  clear H
  go_enter Try.func40, Try.ntmps40
  go_wp2_with fail
  go_loopg [0] r.list.length (fun g p wr => ∃ b1 k1 v1 l1 r1, p = .pointer (some ⟨b1, 0, none⟩) ∧ r1.list.length ≤ g ∧ Tr w (.node b1 k1 v1 l1 r1) ∧ (∀ x, (BT.node b1 k1 v1 l1 r1).has x → (BT.node b k v l r).has x) ∧ (BT.node b1 k1 v1 l1 r1).list.getLast? = (BT.node b k v l r).list.getLast? ∧ ∃ n, wr = w.drewN n)
  case atStart => exact ⟨b, k, v, l, r, rfl, Nat.le_refl _, HH.out, fun _ hx => hx, rfl, 0, rfl⟩
  case round =>
    obtain ⟨b1, k1, v1, l1, r1, rfl, hg, hT, hhas, hlast, n, rfl⟩ := hrel
    have KT := Lib.hid hT
    have KH := Lib.hid hhas
    have KL := Lib.hid hlast
    obtain ⟨_, _, _, c3, _⟩ := hT.1.cells
    clear hT hhas hlast
    cases r1 with
    | nil =>
      have c3' : w.cell? ⟨b1, 3, none⟩ = some (.pointer none) := c3
      clear c3 hg
      go_wp2
      go_returns
      exact ⟨⟨b1, k1, v1, _, _, _, rfl, KH.out _ (.inl rfl), KT.out.1.drewN n, by rw [← KL.out]; simp [BT.list]⟩, n, rfl⟩
    | node b2 k2 v2 l2 r2 =>
      have c3' : w.cell? ⟨b1, 3, none⟩ = some (.pointer (some ⟨b2, 0, none⟩)) := c3
      simp only [BT.list, List.length_append, List.length_cons] at hg
      clear c3
      go_wp2
      go_roundg (r2.list.length)
      case measure => omega
      case rel => exact ⟨b2, k2, v2, l2, r2, rfl, Nat.le_refl _, KT.out.2.2.1, fun x hx => KH.out x (.inr (.inr hx)), by rw [← KL.out]; exact last_in _ _ _ _ _, n, rfl⟩

theorem high_q (p : Value) (h : Int) (w u : World) (H : Hgt w p h) (hu : u.heap = w.heap) : Calls Try.prog 41 #[p] u fun e w' => e = .returned (.int .i64 h) ∧ ∃ n, w' = u.drewN n :=
  (high_any p h u (H.heap hu)).mono fun _ _ ⟨he, hw⟩ => ⟨he, 0, hw.symm⟩

set_option maxHeartbeats 1000000 in
theorem even_c (b : Nat) (k v h : Int) (l r : BT) (w : World) (H : Half w (Tr w) b k v l r h) (hl : l.ht ≤ 10000) (hr : r.ht ≤ 10000) (h1 : l.ht ≤ r.ht + 1) (h2 : r.ht ≤ l.ht + 1) :
    Calls Try.prog 39 #[.pointer (some ⟨b, 0, none⟩)] w fun e w' => e = .returned (.pointer (some ⟨b, 0, none⟩)) ∧ Tr w' (.node b k v l r) ∧ Only (fun x => x = b) w w' := by
  have HH := Lib.hid H
  obtain ⟨HN, HL, HR, n4, n5, n6⟩ := H
  obtain ⟨_, _, c2, c3, _⟩ := HN.cells
  obtain ⟨pl, hpl⟩ := l.ptr_is
  obtain ⟨pr, hpr⟩ := r.ptr_is
  have KP : Hid (∀ u, u.heap = w.heap → Calls Try.prog 41 #[.pointer pl] u fun e w' => e = .returned (.int .i64 l.ht) ∧ ∃ n, w' = u.drewN n) := fun u hu => high_q _ _ w u (by rw [← hpl]; exact HL.hgt) hu
  have KQ : Hid (∀ u, u.heap = w.heap → Calls Try.prog 41 #[.pointer pr] u fun e w' => e = .returned (.int .i64 r.ht) ∧ ∃ n, w' = u.drewN n) := fun u hu => high_q _ _ w u (by rw [← hpr]; exact HR.hgt) hu
  have KM : Hid (∀ n, Calls Try.prog 43 #[.pointer (some ⟨b, 0, none⟩)] (w.drewN n) fun e w' => (∃ u, e = .returned u) ∧ Only (· = b) (w.drewN n) w' ∧ NodeAt w' b k v l.ptr r.ptr (1 + max (l.ht : Int) r.ht)) := fun n =>
    measure_any b k v l.ptr r.ptr h l.ht r.ht (w.drewN n) (HN.drewN n) (HL.hgt.heap rfl) (HR.hgt.heap rfl) ⟨by omega, by omega⟩ ⟨by omega, by omega⟩
  rw [hpl] at c2
  rw [hpr] at c3
  have su : IntKind.i64.wrap 1 = 1 := by decide
  have su0 : IntKind.i64.wrap 0 = 0 := by decide
  obtain ⟨hi, hhi⟩ : ∃ x, x = (l.ht : Int) := ⟨_, rfl⟩
  obtain ⟨lo, hlo⟩ : ∃ x, x = (r.ht : Int) := ⟨_, rfl⟩
  rw [← hhi] at KP
  rw [← hlo] at KQ
  have g1 : hi ≤ lo + 1 := by omega
  have g2 : lo ≤ hi + 1 := by omega
  have s1 : IntKind.i64.wrap (lo + 1) = lo + 1 := IntWalk.i64_in _ (by omega)
  have s2 : IntKind.i64.wrap (hi + 1) = hi + 1 := IntWalk.i64_in _ (by omega)
  have ix0 : ∀ u, (Instr.index 57 (.agg #[.pointer pl, .pointer pr]) (.int .i64 0)).run Try.prog u = .ok (.pointer pl) u := fun _ => by kernel_rfl
  have ix1 : ∀ u, (Instr.index 57 (.agg #[.pointer pl, .pointer pr]) (.int .i64 1)).run Try.prog u = .ok (.pointer pr) u := fun _ => by kernel_rfl
  clear HN HL HR n4 n5 n6 hhi hlo h1 h2 hl hr hpl hpr
  go_enter Try.func39, Try.ntmps39
  go_wp2_with fail
  go_loopw [9] (fun vi wr => (vi = .int .i64 0 ∨ vi = .int .i64 1 ∨ vi = .int .i64 2) ∧ ∃ n, wr = w.drewN n) (fun vi _ => 2 - (intOf vi).toNat)
  case atStart => exact ⟨.inl rfl, 0, rfl⟩
  case round =>
    obtain ⟨hj, n, hw⟩ := hrel
    have HW := Lib.hid hw
    have hh : wr.heap = w.heap := by rw [hw]; rfl
    have e2 : wr.cell? ⟨b, 2, none⟩ = some (.pointer pl) := by rw [hw]; exact c2
    have e3 : wr.cell? ⟨b, 3, none⟩ = some (.pointer pr) := by rw [hw]; exact c3
    have KMw : Hid (Calls Try.prog 43 #[.pointer (some ⟨b, 0, none⟩)] wr fun e w' => (∃ u, e = .returned u) ∧ Only (· = b) (w.drewN n) w' ∧ NodeAt w' b k v l.ptr r.ptr (1 + max (l.ht : Int) r.ht)) := by
      show Calls _ _ _ _ _
      rw [hw]
      exact KM.out n
    have KPw : Hid (∀ n, Calls Try.prog 41 #[.pointer pl] (wr.drewN n) fun e w' => e = .returned (.int .i64 hi) ∧ ∃ m, w' = (wr.drewN n).drewN m) := fun n => KP.out _ (by rw [← hh]; rfl)
    have KQw : Hid (∀ n, Calls Try.prog 41 #[.pointer pr] (wr.drewN n) fun e w' => e = .returned (.int .i64 lo) ∧ ∃ m, w' = (wr.drewN n).drewN m) := fun n => KQ.out _ (by rw [← hh]; rfl)
    clear hw hh c2 c3 KM KP KQ
    rcases hj with rfl | rfl | rfl
    · go_wp2_with fail
      go_quiet (first
        | (go_at_call_of 41 (Value.pointer pl); exact Calls.quiet_of (KPw.out _))
        | (go_at_call_of 41 (Value.pointer pr); exact Calls.quiet_of (KQw.out _)))
      go_wp2
      go_roundw
      case rel => exact ⟨.inr (.inl rfl), _, by rw [HW.out]; exact World.drewN_drewN _ _ _⟩
      case measure => simp [intOf]
    · go_wp2_with fail
      go_quiet (first
        | (go_at_call_of 41 (Value.pointer pl); exact Calls.quiet_of (KPw.out _))
        | (go_at_call_of 41 (Value.pointer pr); exact Calls.quiet_of (KQw.out _)))
      go_wp2
      go_roundw
      case rel => exact ⟨.inr (.inr rfl), _, by rw [HW.out]; exact World.drewN_drewN _ _ _⟩
      case measure => simp [intOf]
    · go_wp2_with fail
      refine KMw.out.mono ?_
      rintro e w1 ⟨⟨u, rfl⟩, O1, A1⟩
      have KO := Lib.hid O1
      have KA := Lib.hid A1
      clear O1 A1
      go_wp2
      go_returns
      obtain ⟨HN, HL, HR, n4, n5, n6⟩ := HH.out
      have O2 : Only (fun x => x = b) w w1 := (Only.drewN _ w n).trans KO.out
      refine ⟨rfl, ⟨?_, HL.keep O2 (fun x hx e => n4 (e ▸ hx)), HR.keep O2 (fun x hx e => n5 (e ▸ hx)), n4, n5, n6⟩, O2⟩
      have e : (1 + max (l.ht : Int) r.ht) = ((1 + max l.ht r.ht : Nat) : Int) := by omega
      have h := KA.out
      rw [e] at h
      exact h
end Go.Proofs.Ytkieifkbkmdgdaa
