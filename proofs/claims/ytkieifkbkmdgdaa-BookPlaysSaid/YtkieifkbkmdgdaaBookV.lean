/-
  A TABLE AS A TREE IN MEMORY: even where a branch is too high. No condition.
-/
import Derived.Test.YtkieifkbkmdgdaaBookU
namespace Go.Proofs.Ytkieifkbkmdgdaa
open Go.RowKit

/-- What even tells of a node and its branches. -/
def Evened (b : Nat) (k v : Int) (l r : BT) (w : World) (e : Ending) (w' : World) : Prop :=
  ∃ T : BT, e = .returned T.ptr ∧ Tr w' T ∧ T.list = l.list ++ (k, v) :: r.list ∧ (∀ x, T.has x → x = b ∨ l.has x ∨ r.has x) ∧ Only (fun x => x = b ∨ l.has x ∨ r.has x) w w'

theorem Only.nil {S : Nat → Prop} {w w' : World} (h : Only (fun _ => False) w w') : Only S w w' := h.mono fun _ _ hx => hx.elim
theorem Half.keep {S : Nat → Prop} {w w' : World} {b : Nat} {k v h : Int} {l r : BT} (H : Half w (Tr w) b k v l r h) (ho : Only S w w') (hn : ∀ x, (x = b ∨ l.has x ∨ r.has x) → ¬ S x) : Half w' (Tr w') b k v l r h :=
  ⟨H.1.keep ho (hn _ (.inl rfl)), H.2.1.keep ho fun x hx => hn x (.inr (.inl hx)), H.2.2.1.keep ho fun x hx => hn x (.inr (.inr hx)), H.2.2.2.1, H.2.2.2.2.1, H.2.2.2.2.2⟩
theorem Half.not {w : World} {b : Nat} {k v h : Int} {l r : BT} (H : Half w (Tr w) b k v l r h) : (∀ x, l.has x → x ≠ b) ∧ (∀ x, r.has x → x ≠ b) ∧ ∀ x, l.has x → ¬ r.has x :=
  ⟨fun _ hx e => H.2.2.2.1 (e ▸ hx), fun _ hx e => H.2.2.2.2.1 (e ▸ hx), H.2.2.2.2.2⟩

/-- One turn is enough. -/
theorem single_l (b : Nat) (k v h : Int) (b' : Nat) (k' v' : Int) (l' r' r : BT) (w u : World) (H : Half w (Tr w) b k v (.node b' k' v' l' r') r h) (hl : l'.ht ≤ 100000) (hr' : r'.ht ≤ 100000) (hr : r.ht ≤ 100000) (hu : Only (fun _ => False) w u) :
    Calls Try.prog 42 #[.pointer (some ⟨b, 0, none⟩), .int .i64 0] u (Evened b k v (.node b' k' v' l' r') r w) :=
  (raise_l b k v h b' k' v' l' r' r u (H.keep hu fun _ _ => id) hl hr' hr).mono fun e w' ⟨he, hT, ho⟩ =>
    ⟨.node b' k' v' l' (.node b k v r' r), he, hT, by simp [BT.list], by
      intro x hx
      simp only [BT.has] at hx ⊢
      rcases hx with hx | hx | hx | hx | hx <;> simp only [hx, true_or, or_true],
      hu.nil.then ho fun x _ hx => by
        rcases hx with hx | hx
        · exact .inl hx
        · exact .inr (.inl (.inl hx))⟩
theorem single_r (b : Nat) (k v h : Int) (b' : Nat) (k' v' : Int) (l l' r' : BT) (w u : World) (H : Half w (Tr w) b k v l (.node b' k' v' l' r') h) (hl : l'.ht ≤ 100000) (hr' : r'.ht ≤ 100000) (hl0 : l.ht ≤ 100000) (hu : Only (fun _ => False) w u) :
    Calls Try.prog 42 #[.pointer (some ⟨b, 0, none⟩), .int .i64 1] u (Evened b k v l (.node b' k' v' l' r') w) :=
  (raise_r b k v h b' k' v' l l' r' u (H.keep hu fun _ _ => id) hl hr' hl0).mono fun e w' ⟨he, hT, ho⟩ =>
    ⟨.node b' k' v' (.node b k v l l') r', he, hT, by simp [BT.list], by
      intro x hx
      simp only [BT.has] at hx ⊢
      rcases hx with hx | (hx | hx | hx) | hx <;> simp only [hx, true_or, or_true],
      hu.nil.then ho fun x _ hx => by
        rcases hx with hx | hx
        · exact .inl hx
        · exact .inr (.inr (.inl hx))⟩

/-- The branch is turned first. -/
def Turned (b : Nat) (o : Nat) (s : Int) (p : Value) (k v : Int) (l r : BT) (w : World) (e : Ending) (w' : World) : Prop :=
  ∃ b2, e = .returned (.pointer (some ⟨b2, 0, none⟩)) ∧ w'.cell? ⟨b, o, none⟩ = some p ∧ w'.frozen? ⟨b, o, none⟩ = false ∧
    Hid (∀ u, Only (fun _ => False) (w'.setCell ⟨b, o, none⟩ (.pointer (some ⟨b2, 0, none⟩))) u → Calls Try.prog 42 #[.pointer (some ⟨b, 0, none⟩), .int .i64 s] u (Evened b k v l r w))
theorem double_l (b : Nat) (k v h : Int) (b' : Nat) (k' v' : Int) (l' : BT) (b2 : Nat) (k2 v2 : Int) (l2 r2 r : BT) (w u : World) (H : Half w (Tr w) b k v (.node b' k' v' l' (.node b2 k2 v2 l2 r2)) r h) (hl : l'.ht ≤ 10000) (hr' : (BT.node b2 k2 v2 l2 r2).ht ≤ 10000) (hr : r.ht ≤ 10000) (hu : Only (fun _ => False) w u) :
    Calls Try.prog 42 #[.pointer (some ⟨b', 0, none⟩), .int .i64 1] u (Turned b 2 0 (.pointer (some ⟨b', 0, none⟩)) k v (.node b' k' v' l' (.node b2 k2 v2 l2 r2)) r w) := by
  simp only [BT.ht] at hr'
  have H' := H.keep hu fun _ _ => id
  refine (raise_r b' k' v' _ b2 k2 v2 l' l2 r2 u H'.2.1.half (by omega) (by omega) (by omega)).mono fun e w' ⟨he, hT, ho⟩ => ⟨b2, he, ?_, ?_, ?_⟩
  · exact (H'.1.keep ho (by rintro (e | e) <;> exact H'.2.2.2.1 (by simp [BT.has, e]))).cells.2.2.1
  · exact (H'.1.keep ho (by rintro (e | e) <;> exact H'.2.2.2.1 (by simp [BT.has, e]))).free.2.2.1
  · intro u2 hu2
    have hb : NodeAt w' b k v _ r.ptr h := H'.1.keep ho (by rintro (e | e) <;> exact H'.2.2.2.1 (by simp [BT.has, e]))
    have hrr : Tr w' r := H'.2.2.1.keep ho (by rintro x hx (e | e) <;> exact H'.2.2.2.2.2 x (by simp [BT.has, e]) hx)
    have hnb : ∀ x, (BT.node b2 k2 v2 (.node b' k' v' l' l2) r2).has x → (BT.node b' k' v' l' (.node b2 k2 v2 l2 r2)).has x := by
      intro x hx
      simp only [BT.has] at hx ⊢
      rcases hx with hx | (hx | hx | hx) | hx <;> simp only [hx, true_or, or_true]
    have O2 : Only (· = b) w' (w'.setCell ⟨b, 2, none⟩ (.pointer (some ⟨b2, 0, none⟩))) := Only.set _ _ _ _
    have HX : Half (w'.setCell ⟨b, 2, none⟩ (.pointer (some ⟨b2, 0, none⟩))) (Tr (w'.setCell ⟨b, 2, none⟩ (.pointer (some ⟨b2, 0, none⟩)))) b k v (.node b2 k2 v2 (.node b' k' v' l' l2) r2) r h :=
      ⟨hb.setL _, hT.keep O2 (fun x hx e => H.2.2.2.1 (hnb _ (e ▸ hx))), hrr.keep O2 (fun x hx e => H.2.2.2.2.1 (e ▸ hx)), fun hx => H.2.2.2.1 (hnb _ hx), H.2.2.2.2.1, fun x hx => H.2.2.2.2.2 x (hnb _ hx)⟩
    refine (single_l b k v h b2 k2 v2 (.node b' k' v' l' l2) r2 r _ u2 HX (by simp only [BT.ht]; omega) (by omega) (by omega) hu2).mono fun e w3 ⟨T, h1, h2, h3, h4, h5⟩ => ⟨T, h1, h2, ?_, ?_, ?_⟩
    · rw [h3]; simp [BT.list]
    · intro x hx
      rcases h4 x hx with hx | hx | hx
      · exact .inl hx
      · exact .inr (.inl (hnb x hx))
      · exact .inr (.inr hx)
    · refine ((hu.nil.then ho fun x _ hx => ?_).then O2 fun x _ hx => .inl hx).then h5 fun x _ hx => ?_
      · rcases hx with hx | hx <;> simp [BT.has, hx]
      · rcases hx with hx | hx | hx
        · exact .inl hx
        · exact .inr (.inl (hnb x hx))
        · exact .inr (.inr hx)
theorem double_r (b : Nat) (k v h : Int) (b' : Nat) (k' v' : Int) (r' : BT) (b2 : Nat) (k2 v2 : Int) (l2 r2 l : BT) (w u : World) (H : Half w (Tr w) b k v l (.node b' k' v' (.node b2 k2 v2 l2 r2) r') h) (hr : r'.ht ≤ 10000) (hl' : (BT.node b2 k2 v2 l2 r2).ht ≤ 10000) (hl : l.ht ≤ 10000) (hu : Only (fun _ => False) w u) :
    Calls Try.prog 42 #[.pointer (some ⟨b', 0, none⟩), .int .i64 0] u (Turned b 3 1 (.pointer (some ⟨b', 0, none⟩)) k v l (.node b' k' v' (.node b2 k2 v2 l2 r2) r') w) := by
  simp only [BT.ht] at hl'
  have H' := H.keep hu fun _ _ => id
  refine (raise_l b' k' v' _ b2 k2 v2 l2 r2 r' u H'.2.2.1.half (by omega) (by omega) (by omega)).mono fun e w' ⟨he, hT, ho⟩ => ⟨b2, he, ?_, ?_, ?_⟩
  · exact (H'.1.keep ho (by rintro (e | e) <;> exact H'.2.2.2.2.1 (by simp [BT.has, e]))).cells.2.2.2.1
  · exact (H'.1.keep ho (by rintro (e | e) <;> exact H'.2.2.2.2.1 (by simp [BT.has, e]))).free.2.2.2.1
  · intro u2 hu2
    have hb : NodeAt w' b k v l.ptr _ h := H'.1.keep ho (by rintro (e | e) <;> exact H'.2.2.2.2.1 (by simp [BT.has, e]))
    have hll : Tr w' l := H'.2.1.keep ho (by rintro x hx (e | e) <;> exact H'.2.2.2.2.2 x hx (by simp [BT.has, e]))
    have hnb : ∀ x, (BT.node b2 k2 v2 l2 (.node b' k' v' r2 r')).has x → (BT.node b' k' v' (.node b2 k2 v2 l2 r2) r').has x := by
      intro x hx
      simp only [BT.has] at hx ⊢
      rcases hx with hx | hx | hx | hx | hx <;> simp only [hx, true_or, or_true]
    have O2 : Only (· = b) w' (w'.setCell ⟨b, 3, none⟩ (.pointer (some ⟨b2, 0, none⟩))) := Only.set _ _ _ _
    have HX : Half (w'.setCell ⟨b, 3, none⟩ (.pointer (some ⟨b2, 0, none⟩))) (Tr (w'.setCell ⟨b, 3, none⟩ (.pointer (some ⟨b2, 0, none⟩)))) b k v l (.node b2 k2 v2 l2 (.node b' k' v' r2 r')) h :=
      ⟨hb.setR _, hll.keep O2 (fun x hx e => H.2.2.2.1 (e ▸ hx)), hT.keep O2 (fun x hx e => H.2.2.2.2.1 (hnb _ (e ▸ hx))), H.2.2.2.1, fun hx => H.2.2.2.2.1 (hnb _ hx), fun x hl hx => H.2.2.2.2.2 x hl (hnb _ hx)⟩
    refine (single_r b k v h b2 k2 v2 l l2 (.node b' k' v' r2 r') _ u2 HX (by omega) (by simp only [BT.ht]; omega) (by omega) hu2).mono fun e w3 ⟨T, h1, h2, h3, h4, h5⟩ => ⟨T, h1, h2, ?_, ?_, ?_⟩
    · rw [h3]; simp [BT.list]
    · intro x hx
      rcases h4 x hx with hx | hx | hx
      · exact .inl hx
      · exact .inr (.inl hx)
      · exact .inr (.inr (hnb x hx))
    · refine ((hu.nil.then ho fun x _ hx => ?_).then O2 fun x _ hx => .inl hx).then h5 fun x _ hx => ?_
      · rcases hx with hx | hx <;> simp [BT.has, hx]
      · rcases hx with hx | hx | hx
        · exact .inl hx
        · exact .inr (.inl hx)
        · exact .inr (.inr (hnb x hx))

set_option maxHeartbeats 2000000 in
theorem even_a (b : Nat) (k v h : Int) (b' : Nat) (k' v' : Int) (l' r' r : BT) (w : World) (H : Half w (Tr w) b k v (.node b' k' v' l' r') r h) (hl : (BT.node b' k' v' l' r').ht ≤ 10000) (hr : r.ht ≤ 10000) (h1 : r.ht + 1 < (BT.node b' k' v' l' r').ht) :
    Calls Try.prog 39 #[.pointer (some ⟨b, 0, none⟩)] w (Evened b k v (.node b' k' v' l' r') r w) := by
  have HH := Lib.hid H
  obtain ⟨HN, HL, HR, n4, n5, n6⟩ := H
  obtain ⟨_, _, c2, c3, _⟩ := HN.cells
  obtain ⟨_, _, z2, _, _⟩ := HN.free
  obtain ⟨_, _, d2, d3, _⟩ := HL.1.cells
  obtain ⟨pr, hpr⟩ := r.ptr_is
  obtain ⟨ql, hql⟩ := l'.ptr_is
  obtain ⟨qr, hqr⟩ := r'.ptr_is
  have hl' : l'.ht ≤ 10000 ∧ r'.ht ≤ 10000 := by simp only [BT.ht] at hl; omega
  have KP : Hid (∀ u, u.heap = w.heap → Calls Try.prog 41 #[.pointer (some ⟨b', 0, none⟩)] u fun e w' => e = .returned (.int .i64 ((BT.node b' k' v' l' r').ht)) ∧ ∃ n, w' = u.drewN n) := fun u hu => high_q _ _ w u HL.hgt hu
  have KQ : Hid (∀ u, u.heap = w.heap → Calls Try.prog 41 #[.pointer pr] u fun e w' => e = .returned (.int .i64 r.ht) ∧ ∃ n, w' = u.drewN n) := fun u hu => high_q _ _ w u (by rw [← hpr]; exact HR.hgt) hu
  have KA : Hid (∀ u, u.heap = w.heap → Calls Try.prog 41 #[.pointer ql] u fun e w' => e = .returned (.int .i64 l'.ht) ∧ ∃ n, w' = u.drewN n) := fun u hu => high_q _ _ w u (by rw [← hql]; exact HL.2.1.hgt) hu
  have KB : Hid (∀ u, u.heap = w.heap → Calls Try.prog 41 #[.pointer qr] u fun e w' => e = .returned (.int .i64 r'.ht) ∧ ∃ n, w' = u.drewN n) := fun u hu => high_q _ _ w u (by rw [← hqr]; exact HL.2.2.1.hgt) hu
  have c2' : w.cell? ⟨b, 2, none⟩ = some (.pointer (some ⟨b', 0, none⟩)) := c2
  rw [hpr] at c3
  rw [hql] at d2
  rw [hqr] at d3
  have su : IntKind.i64.wrap 1 = 1 := by decide
  have su0 : IntKind.i64.wrap 0 = 0 := by decide
  obtain ⟨hi, hhi⟩ : ∃ x, x = ((BT.node b' k' v' l' r').ht : Int) := ⟨_, rfl⟩
  obtain ⟨lo, hlo⟩ : ∃ x, x = (r.ht : Int) := ⟨_, rfl⟩
  obtain ⟨ha, hha⟩ : ∃ x, x = (l'.ht : Int) := ⟨_, rfl⟩
  obtain ⟨hb, hhb⟩ : ∃ x, x = (r'.ht : Int) := ⟨_, rfl⟩
  rw [← hhi] at KP
  rw [← hlo] at KQ
  rw [← hha] at KA
  rw [← hhb] at KB
  have g1 : lo + 1 < hi := by omega
  have s1 : IntKind.i64.wrap (lo + 1) = lo + 1 := IntWalk.i64_in _ (by omega)
  have ix0 : ∀ u, (Instr.index 57 (.agg #[.pointer (some ⟨b', 0, none⟩), .pointer pr]) (.int .i64 0)).run Try.prog u = .ok (.pointer (some ⟨b', 0, none⟩)) u := fun _ => by kernel_rfl
  have Hl := Lib.hid hl'
  have Hr := Lib.hid hr
  have HA := Lib.hid hha
  have HB := Lib.hid hhb
  clear HN HL HR n4 n5 n6 hhi hlo hha hhb h1 hl hr hpr hql hqr c2 hl'
  by_cases hab : ha < hb
  · have hab' := Lib.hid hab
    go_enter Try.func39, Try.ntmps39
    go_wp2_with fail
    go_loopw [9] (fun vi wr => vi = .int .i64 0 ∧ wr = w) (fun vi _ => 2 - (intOf vi).toNat)
    case atStart => exact ⟨rfl, rfl⟩
    case round =>
      obtain ⟨rfl, rfl⟩ := hrel
      go_wp2_with fail
      go_quiet (first
        | (go_at_call_of 41 (Value.pointer (some ⟨b', 0, none⟩)); exact Calls.quiet_of (KP.out _ rfl))
        | (go_at_call_of 41 (Value.pointer pr); exact Calls.quiet_of (KQ.out _ rfl)))
      obtain ⟨W, hW⟩ : ∃ W, W = wr.drewN nq := ⟨_, rfl⟩
      rw [← hW]
      have f2 : W.cell? ⟨b', 2, none⟩ = some (.pointer ql) := by rw [hW]; exact d2
      have f3 : W.cell? ⟨b', 3, none⟩ = some (.pointer qr) := by rw [hW]; exact d3
      have hh : Hid (W.heap = wr.heap) := by show _ = _; rw [hW]; rfl
      have HO : Hid (Only (fun _ => False) wr W) := by show Only _ _ _; rw [hW]; exact Only.drewN _ _ _
      clear hW c2' c3 d2 d3
      go_wp2_with fail
      go_quiet (first
        | (go_at_call_of 41 (Value.pointer ql); exact Calls.quiet_of (KA.out _ hh.out))
        | (go_at_call_of 41 (Value.pointer qr); exact Calls.quiet_of (KB.out _ hh.out)))
      obtain ⟨X, hX⟩ : ∃ X, X = W.drewN nq := ⟨_, rfl⟩
      rw [← hX]
      have KO : Hid (Only (fun _ => False) wr X) := by show Only _ _ _; rw [hX]; exact HO.out.trans (Only.drewN _ _ _)
      clear hX f2 f3 hh HO KA KB KP KQ
      clear hab
      cases r' with
      | nil => exact absurd HB.out (by simp only [BT.ht]; have := HA.out; have := hab'.out; omega)
      | node b2 k2 v2 l2 r2 =>
        have KR : Hid (∀ u, Only (fun _ => False) wr u → Calls Try.prog 42 #[.pointer (some ⟨b', 0, none⟩), .int .i64 1] u (Turned b 2 0 (.pointer (some ⟨b', 0, none⟩)) k v (.node b' k' v' l' (.node b2 k2 v2 l2 r2)) r wr)) :=
          fun u hu => double_l b k v h b' k' v' l' b2 k2 v2 l2 r2 r wr u HH.out Hl.out.1 Hl.out.2 Hr.out hu
        go_wp2_with fail
        go_region_held3 (fun _ => True) (exact trivial)
          (first
            | (go_at_call 42; (with_reducible refine (KR.out _ ?_).mono ?_); (focus exact KO.out.drew); rintro e X1 ⟨b3, rfl, y1, y2, KN⟩))
        go_wp2_with fail
        refine (KN.out _ ?_).mono ?_
        · first | exact Only.refl _ _ | exact (Only.refl _ _).drew
        rintro e X2 ⟨T, rfl, hT⟩
        have KT := Lib.hid hT
        clear hT
        go_wp2
        go_returns
        exact ⟨T, rfl, KT.out⟩
  · have hab' : hb ≤ ha := by omega
    clear hab
    go_enter Try.func39, Try.ntmps39
    go_wp2_with fail
    go_loopw [9] (fun vi wr => vi = .int .i64 0 ∧ wr = w) (fun vi _ => 2 - (intOf vi).toNat)
    case atStart => exact ⟨rfl, rfl⟩
    case round =>
      obtain ⟨rfl, rfl⟩ := hrel
      go_wp2_with fail
      go_quiet (first
        | (go_at_call_of 41 (Value.pointer (some ⟨b', 0, none⟩)); exact Calls.quiet_of (KP.out _ rfl))
        | (go_at_call_of 41 (Value.pointer pr); exact Calls.quiet_of (KQ.out _ rfl)))
      obtain ⟨W, hW⟩ : ∃ W, W = wr.drewN nq := ⟨_, rfl⟩
      rw [← hW]
      have f2 : W.cell? ⟨b', 2, none⟩ = some (.pointer ql) := by rw [hW]; exact d2
      have f3 : W.cell? ⟨b', 3, none⟩ = some (.pointer qr) := by rw [hW]; exact d3
      have hh : Hid (W.heap = wr.heap) := by show _ = _; rw [hW]; rfl
      have HO : Hid (Only (fun _ => False) wr W) := by show Only _ _ _; rw [hW]; exact Only.drewN _ _ _
      clear hW c2' c3 d2 d3
      go_wp2_with fail
      go_quiet (first
        | (go_at_call_of 41 (Value.pointer ql); exact Calls.quiet_of (KA.out _ hh.out))
        | (go_at_call_of 41 (Value.pointer qr); exact Calls.quiet_of (KB.out _ hh.out)))
      obtain ⟨X, hX⟩ : ∃ X, X = W.drewN nq := ⟨_, rfl⟩
      rw [← hX]
      have KO : Hid (Only (fun _ => False) wr X) := by show Only _ _ _; rw [hX]; exact HO.out.trans (Only.drewN _ _ _)
      clear hX f2 f3 hh HO KA KB KP KQ
      have KR : Hid (∀ u, Only (fun _ => False) wr u → Calls Try.prog 42 #[.pointer (some ⟨b, 0, none⟩), .int .i64 0] u (Evened b k v (.node b' k' v' l' r') r wr)) :=
        fun u hu => single_l b k v h b' k' v' l' r' r wr u HH.out (by have := Hl.out.1; omega) (by have := Hl.out.2; omega) (by have := Hr.out; omega) hu
      go_wp2_with fail
      refine (KR.out _ KO.out).mono ?_
      rintro e X2 ⟨T, rfl, hT⟩
      have KT := Lib.hid hT
      clear hT
      go_wp2
      go_returns
      exact ⟨T, rfl, KT.out⟩

set_option maxHeartbeats 2000000 in
theorem even_b (b : Nat) (k v h : Int) (b' : Nat) (k' v' : Int) (l' r' l : BT) (w : World) (H : Half w (Tr w) b k v l (.node b' k' v' l' r') h) (hr : (BT.node b' k' v' l' r').ht ≤ 10000) (hl : l.ht ≤ 10000) (h1 : l.ht + 1 < (BT.node b' k' v' l' r').ht) :
    Calls Try.prog 39 #[.pointer (some ⟨b, 0, none⟩)] w (Evened b k v l (.node b' k' v' l' r') w) := by
  have HH := Lib.hid H
  obtain ⟨HN, HL, HR, n4, n5, n6⟩ := H
  obtain ⟨_, _, c2, c3, _⟩ := HN.cells
  obtain ⟨_, _, _, z3, _⟩ := HN.free
  obtain ⟨_, _, d2, d3, _⟩ := HR.1.cells
  obtain ⟨pl, hpl⟩ := l.ptr_is
  obtain ⟨ql, hql⟩ := l'.ptr_is
  obtain ⟨qr, hqr⟩ := r'.ptr_is
  have hl' : l'.ht ≤ 10000 ∧ r'.ht ≤ 10000 := by simp only [BT.ht] at hr; omega
  have KP : Hid (∀ u, u.heap = w.heap → Calls Try.prog 41 #[.pointer (some ⟨b', 0, none⟩)] u fun e w' => e = .returned (.int .i64 ((BT.node b' k' v' l' r').ht)) ∧ ∃ n, w' = u.drewN n) := fun u hu => high_q _ _ w u HR.hgt hu
  have KQ : Hid (∀ u, u.heap = w.heap → Calls Try.prog 41 #[.pointer pl] u fun e w' => e = .returned (.int .i64 l.ht) ∧ ∃ n, w' = u.drewN n) := fun u hu => high_q _ _ w u (by rw [← hpl]; exact HL.hgt) hu
  have KA : Hid (∀ u, u.heap = w.heap → Calls Try.prog 41 #[.pointer ql] u fun e w' => e = .returned (.int .i64 l'.ht) ∧ ∃ n, w' = u.drewN n) := fun u hu => high_q _ _ w u (by rw [← hql]; exact HR.2.1.hgt) hu
  have KB : Hid (∀ u, u.heap = w.heap → Calls Try.prog 41 #[.pointer qr] u fun e w' => e = .returned (.int .i64 r'.ht) ∧ ∃ n, w' = u.drewN n) := fun u hu => high_q _ _ w u (by rw [← hqr]; exact HR.2.2.1.hgt) hu
  have c3' : w.cell? ⟨b, 3, none⟩ = some (.pointer (some ⟨b', 0, none⟩)) := c3
  rw [hpl] at c2
  rw [hql] at d2
  rw [hqr] at d3
  have su : IntKind.i64.wrap 1 = 1 := by decide
  have su0 : IntKind.i64.wrap 0 = 0 := by decide
  obtain ⟨hi, hhi⟩ : ∃ x, x = ((BT.node b' k' v' l' r').ht : Int) := ⟨_, rfl⟩
  obtain ⟨lo, hlo⟩ : ∃ x, x = (l.ht : Int) := ⟨_, rfl⟩
  obtain ⟨ha, hha⟩ : ∃ x, x = (l'.ht : Int) := ⟨_, rfl⟩
  obtain ⟨hb, hhb⟩ : ∃ x, x = (r'.ht : Int) := ⟨_, rfl⟩
  rw [← hhi] at KP
  rw [← hlo] at KQ
  rw [← hha] at KA
  rw [← hhb] at KB
  have g1 : lo + 1 < hi := by omega
  have g2 : lo ≤ hi + 1 := by omega
  have s1 : IntKind.i64.wrap (lo + 1) = lo + 1 := IntWalk.i64_in _ (by omega)
  have s2 : IntKind.i64.wrap (hi + 1) = hi + 1 := IntWalk.i64_in _ (by omega)
  have ix0 : ∀ u, (Instr.index 57 (.agg #[.pointer pl, .pointer (some ⟨b', 0, none⟩)]) (.int .i64 0)).run Try.prog u = .ok (.pointer pl) u := fun _ => by kernel_rfl
  have ix1 : ∀ u, (Instr.index 57 (.agg #[.pointer pl, .pointer (some ⟨b', 0, none⟩)]) (.int .i64 1)).run Try.prog u = .ok (.pointer (some ⟨b', 0, none⟩)) u := fun _ => by kernel_rfl
  have Hr := Lib.hid hl'
  have Hl := Lib.hid hl
  have HA := Lib.hid hha
  have HB := Lib.hid hhb
  clear HN HL HR n4 n5 n6 hhi hlo hha hhb h1 hl hr hpl hql hqr c3 hl'
  go_enter Try.func39, Try.ntmps39
  go_wp2_with fail
  go_loopw [9] (fun vi wr => (vi = .int .i64 0 ∨ vi = .int .i64 1) ∧ ∃ n, wr = w.drewN n) (fun vi _ => 2 - (intOf vi).toNat)
  case atStart => exact ⟨.inl rfl, 0, rfl⟩
  case round =>
    obtain ⟨hj, n, hw⟩ := hrel
    have HW := Lib.hid hw
    have hh : Hid (wr.heap = w.heap) := by show _ = _; rw [hw]; rfl
    have e2 : wr.cell? ⟨b, 2, none⟩ = some (.pointer pl) := by rw [hw]; exact c2
    have e3 : wr.cell? ⟨b, 3, none⟩ = some (.pointer (some ⟨b', 0, none⟩)) := by rw [hw]; exact c3'
    have HO : Hid (Only (fun _ => False) w wr) := by show Only _ _ _; rw [hw]; exact Only.drewN _ _ _
    clear hw
    rcases hj with rfl | rfl
    · go_wp2_with fail
      go_quiet (first
        | (go_at_call_of 41 (Value.pointer pl); exact Calls.quiet_of (KQ.out _ hh.out))
        | (go_at_call_of 41 (Value.pointer (some ⟨b', 0, none⟩)); exact Calls.quiet_of (KP.out _ hh.out)))
      go_wp2
      go_roundw
      case rel => exact ⟨.inr rfl, _, by rw [HW.out]; exact World.drewN_drewN _ _ _⟩
      case measure => simp [intOf]
    · go_wp2_with fail
      go_quiet (first
        | (go_at_call_of 41 (Value.pointer pl); exact Calls.quiet_of (KQ.out _ hh.out))
        | (go_at_call_of 41 (Value.pointer (some ⟨b', 0, none⟩)); exact Calls.quiet_of (KP.out _ hh.out)))
      obtain ⟨W, hW⟩ : ∃ W, W = wr.drewN nq := ⟨_, rfl⟩
      rw [← hW]
      have hh2 : Hid (W.heap = w.heap) := by show _ = _; rw [hW]; exact hh.out
      have f2 : W.cell? ⟨b', 2, none⟩ = some (.pointer ql) := (World.cell?_of_block (w := w) (by rw [hh2.out])).trans d2
      have f3 : W.cell? ⟨b', 3, none⟩ = some (.pointer qr) := (World.cell?_of_block (w := w) (by rw [hh2.out])).trans d3
      have HO2 : Hid (Only (fun _ => False) w W) := by show Only _ _ _; rw [hW]; exact HO.out.trans (Only.drewN _ _ _)
      clear hW c2 c3' d2 d3 e2 e3 HO
      by_cases hab : hb < ha
      · have hab' := Lib.hid hab
        go_wp2_with fail
        go_quiet (first
          | (go_at_call_of 41 (Value.pointer ql); exact Calls.quiet_of (KA.out _ hh2.out))
          | (go_at_call_of 41 (Value.pointer qr); exact Calls.quiet_of (KB.out _ hh2.out)))
        obtain ⟨X, hX⟩ : ∃ X, X = W.drewN nq := ⟨_, rfl⟩
        rw [← hX]
        have KO : Hid (Only (fun _ => False) w X) := by show Only _ _ _; rw [hX]; exact HO2.out.trans (Only.drewN _ _ _)
        clear hX f2 f3 HO2 KA KB KP KQ hab
        cases l' with
        | nil => exact absurd HA.out (by simp only [BT.ht]; have := HB.out; have := hab'.out; omega)
        | node b2 k2 v2 l2 r2 =>
          have KR : Hid (∀ u, Only (fun _ => False) w u → Calls Try.prog 42 #[.pointer (some ⟨b', 0, none⟩), .int .i64 0] u (Turned b 3 1 (.pointer (some ⟨b', 0, none⟩)) k v l (.node b' k' v' (.node b2 k2 v2 l2 r2) r') w)) :=
            fun u hu => double_r b k v h b' k' v' r' b2 k2 v2 l2 r2 l w u HH.out Hr.out.2 Hr.out.1 Hl.out hu
          go_wp2_with fail
          go_region_held3 (fun _ => True) (exact trivial)
            (first
              | (go_at_call 42; (with_reducible refine (KR.out _ ?_).mono ?_); (focus exact KO.out.drew); rintro e X1 ⟨b3, rfl, y1, y2, KN⟩))
          go_wp2_with fail
          refine (KN.out _ ?_).mono ?_
          · first | exact Only.refl _ _ | exact (Only.refl _ _).drew
          rintro e X2 ⟨T, rfl, hT⟩
          have KT := Lib.hid hT
          clear hT
          go_wp2
          go_returns
          exact ⟨T, rfl, KT.out⟩
      · have hab' : ha ≤ hb := by omega
        clear hab
        go_wp2_with fail
        go_quiet (first
          | (go_at_call_of 41 (Value.pointer ql); exact Calls.quiet_of (KA.out _ hh2.out))
          | (go_at_call_of 41 (Value.pointer qr); exact Calls.quiet_of (KB.out _ hh2.out)))
        obtain ⟨X, hX⟩ : ∃ X, X = W.drewN nq := ⟨_, rfl⟩
        rw [← hX]
        have KO : Hid (Only (fun _ => False) w X) := by show Only _ _ _; rw [hX]; exact HO2.out.trans (Only.drewN _ _ _)
        clear hX f2 f3 HO2 KA KB KP KQ
        have KR : Hid (∀ u, Only (fun _ => False) w u → Calls Try.prog 42 #[.pointer (some ⟨b, 0, none⟩), .int .i64 1] u (Evened b k v l (.node b' k' v' l' r') w)) :=
          fun u hu => single_r b k v h b' k' v' l l' r' w u HH.out (by have := Hr.out.1; omega) (by have := Hr.out.2; omega) (by have := Hl.out; omega) hu
        go_wp2_with fail
        refine (KR.out _ KO.out).mono ?_
        rintro e X2 ⟨T, rfl, hT⟩
        have KT := Lib.hid hT
        clear hT
        go_wp2
        go_returns
        exact ⟨T, rfl, KT.out⟩

theorem even_any (b : Nat) (k v h : Int) (l r : BT) (w : World) (H : Half w (Tr w) b k v l r h) (hl : l.ht ≤ 10000) (hr : r.ht ≤ 10000) :
    Calls Try.prog 39 #[.pointer (some ⟨b, 0, none⟩)] w (Evened b k v l r w) := by
  by_cases h1 : l.ht ≤ r.ht + 1
  · by_cases h2 : r.ht ≤ l.ht + 1
    · exact (even_c b k v h l r w H hl hr h1 h2).mono fun e w' ⟨he, hT, ho⟩ => ⟨.node b k v l r, he, hT, rfl, fun _ hx => hx, ho.mono fun _ _ hx => .inl hx⟩
    · cases r with
      | nil => simp only [BT.ht] at h2; omega
      | node b' k' v' l' r' => exact even_b b k v h b' k' v' l' r' l w H hr hl (by omega)
  · cases l with
    | nil => simp only [BT.ht] at h1; omega
    | node b' k' v' l' r' => exact even_a b k v h b' k' v' l' r' r w H hl hr (by omega)
end Go.Proofs.Ytkieifkbkmdgdaa
