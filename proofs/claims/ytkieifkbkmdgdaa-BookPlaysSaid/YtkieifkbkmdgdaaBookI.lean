/-
  THE PROGRAM's TREE gone over, up and down: rise, fall, by contract. No condition but that the keys rise.
-/
import Derived.RangeFuncKeeps
import Derived.RangeFuncNested
import Derived.RangeFuncBound
import Derived.RangeFuncCalls
import Derived.RangeFuncLeaves
import Derived.RangeFuncBox
import Derived.Shelf.Abstract
import Derived.Shelf.RegionOpen
import Derived.WalkKit
import Derived.OwnWalkIn
import Derived.TacticsInMore
import Derived.LoopNIn
import Derived.LoopIn
import Derived.Maps.AppendAt
import Derived.Test.YtkieifkbkmdgdaaBookY
namespace Go.Proofs.Ytkieifkbkmdgdaa
open Go.RowKit Go.Shelf

attribute [local go_sem] Oper.semAt_some

/-- The keys that are not below key, rising; those not above it, falling. -/
def upL (key : Int) (L : List (Int × Int)) : List Int := (L.filter fun x => decide (key ≤ x.1)).map (·.1)
def downL (key : Int) (L : List (Int × Int)) : List Int := ((L.filter fun x => decide (x.1 ≤ key)).map (·.1)).reverse
def BT.up (key : Int) : BT → List Int
  | .nil => []
  | .node _ k _ l r => (if key ≤ k then l.up key ++ [k] else []) ++ r.up key
def BT.down (key : Int) : BT → List Int
  | .nil => []
  | .node _ k _ l r => (if k ≤ key then r.down key ++ [k] else []) ++ l.down key
theorem BT.up_eq (key : Int) : ∀ T : BT, Rise T.list → T.up key = upL key T.list
  | .nil, _ => rfl
  | .node b k v l r, h => by
    have h' : Rise (l.list ++ (k, v) :: r.list) := h
    obtain ⟨s1, s2, s3, s4⟩ := h'.parts
    simp only [BT.up, BT.list, l.up_eq key s1, r.up_eq key s2]
    unfold upL
    rw [List.filter_append, List.map_append]
    by_cases hk : key ≤ k
    · rw [if_pos hk, List.filter_cons_of_pos (by simpa using hk)]
      simp
    · rw [if_neg hk, List.filter_cons_of_neg (by simpa using hk), filter_no (L := l.list) (fun x hx => by have := s3 x hx; simp; omega)]
      simp
theorem BT.down_eq (key : Int) : ∀ T : BT, Rise T.list → T.down key = downL key T.list
  | .nil, _ => rfl
  | .node b k v l r, h => by
    have h' : Rise (l.list ++ (k, v) :: r.list) := h
    obtain ⟨s1, s2, s3, s4⟩ := h'.parts
    simp only [BT.down, BT.list, l.down_eq key s1, r.down_eq key s2]
    unfold downL
    rw [List.filter_append, List.map_append, List.reverse_append]
    by_cases hk : k ≤ key
    · rw [if_pos hk, List.filter_cons_of_pos (by simpa using hk)]
      simp
    · rw [if_neg hk, List.filter_cons_of_neg (by simpa using hk), filter_no (L := r.list) (fun x hx => by have := s4 x hx; simp; omega)]
      simp
theorem upL_len (key : Int) (L : List (Int × Int)) : (upL key L).length ≤ L.length := by unfold upL; rw [List.length_map]; exact List.length_filter_le _ _
theorem downL_len (key : Int) (L : List (Int × Int)) : (downL key L).length ≤ L.length := by unfold downL; rw [List.length_reverse, List.length_map]; exact List.length_filter_le _ _

theorem Tr.below {n₀ : Nat} {w w' : World} (hb : Below n₀ w w') : ∀ {T : BT}, Tr w T → (∀ x, T.has x → x < n₀) → Tr w' T
  | .nil, _, _ => trivial
  | .node _ _ _ _ _, ⟨h, hl, hr, h1, h2, h3⟩, hn => ⟨(hb.block _ (hn _ (.inl rfl))).trans h, hl.below hb fun x hx => hn x (.inr (.inl hx)), hr.below hb fun x hx => hn x (.inr (.inr hx)), h1, h2, h3⟩

theorem RoundIn.anyDepth {F : Fence} (hd : F.depth = none) {m m' : Nat} {P : Program} {l : Nat} {f : FuncId} {tmps : Array Value} {assign body : Code} {w : World} {R : Ending → World → Prop}
    (h : RoundIn F m P l f tmps assign body w R) : RoundIn F m' P l f tmps assign body w R := ⟨h.1, fun c cs _ => h.2 c cs (fun d e => by rw [hd] at e; cases e)⟩
theorem YieldAt.anyDepth {F : Fence} (hd : F.depth = none) {m : Nat} (m' : Nat) {P : Program} {l : Nat} {args : Array Value} {W : World} {R : Ending → World → Prop} (h : YieldAt F m P l args W R) : YieldAt F m' P l args W R := by
  obtain ⟨fn, tmps, assign, body, hy, hR⟩ := h
  exact ⟨fn, tmps, assign, body, hy, RoundIn.anyDepth hd hR⟩

set_option maxRecDepth 100000 in
set_option maxHeartbeats 4000000 in
theorem rise_in (F : Fence) (hd : F.depth = none) (h6 : F.fn 35) (hro : F.round = none) (key : Int) (l n₀ N : Nat) (J Jx : List Int → World → Prop)
    (hY : ∀ m pre x W, J pre W → pre.length < N → YieldAt F m Try.prog l #[.int .i64 x] W fun e W' =>
      (e = .returned (.bool true) ∧ J (pre ++ [x]) W' ∧ Below n₀ W W') ∨ (e = .returned (.bool false) ∧ Jx (pre ++ [x]) W')) (T : BT) :
    ∀ (n : Nat) (pre : List Int) (W : World), Tr W T → (∀ x, T.has x → x < n₀) → J pre W → pre.length + (T.up key).length ≤ N →
      CallsIn F n Try.prog 35 #[T.ptr, .int .i64 key, .func (.yield l) #[] #[]] W fun e W' =>
        (e = .returned (.bool true) ∧ J (pre ++ T.up key) W' ∧ Below n₀ W W') ∨ (e = .returned (.bool false) ∧ ∃ q, q <+: T.up key ∧ Jx (pre ++ q) W') := by
  induction T with
  | nil =>
    intro n pre W _ _ hJ _
    show CallsIn F n Try.prog 35 #[.pointer none, .int .i64 key, .func (.yield l) #[] #[]] W _
    refine callsIn_of_wp Try.func35 rfl h6 ?_ hro
    simp only [Try.ntmps35, List.size_toArray, List.length_cons, List.length_nil, Nat.reduceAdd, Nat.reduceSub, Array.replicate_succ, Array.replicate_zero, List.push_toArray, List.append_toArray, List.nil_append, List.cons_append]
    gi_wp2
    go_ret
    exact .inl ⟨rfl, by simpa [BT.up] using hJ, Below.refl _ _⟩
  | node b k v tl tr ihl ihr =>
    intro n pre W ht hn hJ hN
    show CallsIn F n Try.prog 35 #[.pointer (some ⟨b, 0, none⟩), .int .i64 key, .func (.yield l) #[] #[]] W _
    have hdd : ∀ k : Nat, (F.depth.isSome = true → 1 ≤ k) := fun k h => by rw [hd] at h; cases h
    have hb : b < n₀ := hn b (.inl rfl)
    have hnl : ∀ x, tl.has x → x < n₀ := fun x hx => hn x (.inr (.inl hx))
    have hnr : ∀ x, tr.has x → x < n₀ := fun x hx => hn x (.inr (.inr hx))
    obtain ⟨c0, _, c2, c3, _⟩ := ht.1.cells
    have hl := ht.2.1
    have hr := ht.2.2.1
    obtain ⟨pl, hpl⟩ := tl.ptr_is
    obtain ⟨pr, hpr⟩ := tr.ptr_is
    rw [hpl] at c2
    rw [hpr] at c3
    by_cases hk : key ≤ k
    · have hup : (BT.node b k v tl tr).up key = tl.up key ++ k :: tr.up key := by simp [BT.up, if_pos hk]
      rw [hup] at hN ⊢
      have HN := Lib.hid hN
      simp only [List.length_append, List.length_cons] at hN
      have hy2 : ∀ W1, J (pre ++ tl.up key) W1 → Below n₀ W W1 → YieldAt F (n - 1) Try.prog l #[.int .i64 k] W1 fun e W2 =>
          (e = .returned (.bool true) ∧ J (pre ++ tl.up key ++ [k]) W2 ∧ Below n₀ W W2 ∧ W2.cell? ⟨b, 3, none⟩ = some (.pointer pr) ∧ Tr W2 tr) ∨ (e = .returned (.bool false) ∧ Jx (pre ++ tl.up key ++ [k]) W2) := fun W1 hJ1 hb1 =>
        YieldAt.mono (hY (n - 1) _ k W1 hJ1 (by simp; omega)) fun e W2 h => h.elim
          (fun ⟨he, hj, hb2⟩ => .inl ⟨he, hj, hb1.trans hb2, ((hb1.trans hb2).cell (p := ⟨b, 3, none⟩) hb).trans c3, hr.below (hb1.trans hb2) hnr⟩) .inr
      have ih0 := ihl (n - 1) pre W hl hnl hJ (by omega)
      rw [hpl] at ih0
      have ih1 := ih0.mono (R' := fun e W1 =>
          (e = .returned (.bool true) ∧ W1.cell? ⟨b, 0, none⟩ = some (.int .i64 k) ∧ YieldAt F (n - 1) Try.prog l #[.int .i64 k] W1 fun e W2 =>
            (e = .returned (.bool true) ∧ J (pre ++ tl.up key ++ [k]) W2 ∧ Below n₀ W W2 ∧ W2.cell? ⟨b, 3, none⟩ = some (.pointer pr) ∧ Tr W2 tr) ∨ (e = .returned (.bool false) ∧ Jx (pre ++ tl.up key ++ [k]) W2)) ∨
          (e = .returned (.bool false) ∧ ∃ q, q <+: tl.up key ∧ Jx (pre ++ q) W1))
        (fun e W1 h => h.elim (fun ⟨he, hj, hb1⟩ => .inl ⟨he, (hb1.cell (p := ⟨b, 0, none⟩) hb).trans c0, hy2 W1 hj hb1⟩) .inr)
      have ihr' : ∀ W2, Tr W2 tr → J (pre ++ tl.up key ++ [k]) W2 → CallsIn F (n - 1) Try.prog 35 #[.pointer pr, .int .i64 key, .func (.yield l) #[] #[]] W2 fun e W' =>
          (e = .returned (.bool true) ∧ J (pre ++ tl.up key ++ [k] ++ tr.up key) W' ∧ Below n₀ W2 W') ∨ (e = .returned (.bool false) ∧ ∃ q, q <+: tr.up key ∧ Jx (pre ++ tl.up key ++ [k] ++ q) W') := by
        intro W2 h2 hJ2
        have h := ihr (n - 1) (pre ++ tl.up key ++ [k]) W2 h2 hnr hJ2 (by simp; omega)
        rwa [hpr] at h
      have HR := Lib.hid ihr'
      clear hy2 ihl ihr ih0 ihr' hpl hpr ht hn hnl hnr hl hr hup hN
      refine callsIn_of_wp Try.func35 rfl h6 ?_ hro
      simp only [Try.ntmps35, List.size_toArray, List.length_cons, List.length_nil, Nat.reduceAdd, Nat.reduceSub, Array.replicate_succ, Array.replicate_zero, List.push_toArray, List.append_toArray, List.nil_append, List.cons_append]
      gi_wp2_with (first
        | ((try refine ⟨hdd _, ?_⟩); gi_at_call 35; refine ih1.mono ?_; clear ih1; rintro e W1 (⟨rfl, c1', fn, tmps, assign, body, hy, hR⟩ | ⟨rfl, q, hq, hx1⟩))
        | ((try refine ⟨hdd _, ?_⟩); refine hR.mono ?_; clear hR; rintro e W2 (⟨rfl, hJ2, hb2, c2', hr2⟩ | ⟨rfl, hx2⟩))
        | ((try refine ⟨hdd _, ?_⟩); gi_at_call 35; refine (HR.out _ hr2 hJ2).mono ?_; rintro e W3 (⟨rfl, hJ3, hb3⟩ | ⟨rfl, q, hq, hx3⟩)))
      · go_ret
        exact .inl ⟨rfl, by simpa [List.append_assoc] using hJ3, hb2.trans hb3⟩
      · go_ret
        obtain ⟨r, hr'⟩ := hq
        exact .inr ⟨rfl, tl.up key ++ k :: q, ⟨r, by simp [← hr']⟩, by simpa [List.append_assoc] using hx3⟩
      · go_ret
        exact .inr ⟨rfl, tl.up key ++ [k], ⟨tr.up key, by simp⟩, by simpa [List.append_assoc] using hx2⟩
      · refine ⟨fun _ h => (by cases h), ?_⟩
        gi_wp2
        go_ret
        exact .inr ⟨rfl, q, hq.trans (List.prefix_append _ _), hx1⟩
    · have hup : (BT.node b k v tl tr).up key = tr.up key := by simp [BT.up, if_neg hk]
      rw [hup] at hN ⊢
      have h := ihr (n - 1) pre W hr hnr hJ hN
      rw [hpr] at h
      have HR := Lib.hid h
      clear ihl ihr hpl hpr ht hn hnl hnr hl hr hup hN h
      have hk' : k < key := by omega
      have hun : ∀ b : Bool, (some undef = some (Value.bool b)) = False := by intro b; simp [undef]
      clear hk
      refine callsIn_of_wp Try.func35 rfl h6 ?_ hro
      simp only [Try.ntmps35, List.size_toArray, List.length_cons, List.length_nil, Nat.reduceAdd, Nat.reduceSub, Array.replicate_succ, Array.replicate_zero, List.push_toArray, List.append_toArray, List.nil_append, List.cons_append]
      gi_wp2_with fail
      refine ⟨fun _ h => (by cases h), ?_⟩
      gi_wp2_with ((try refine ⟨hdd _, ?_⟩); gi_at_call 35; refine HR.out.mono ?_; rintro e W3 (⟨rfl, hJ3, hb3⟩ | ⟨rfl, q, hq, hx3⟩))
      · go_ret
        exact .inl ⟨rfl, hJ3, hb3⟩
      · go_ret
        exact .inr ⟨rfl, q, hq, hx3⟩
set_option maxRecDepth 100000 in
set_option maxHeartbeats 4000000 in
theorem fall_in (F : Fence) (hd : F.depth = none) (h6 : F.fn 37) (hro : F.round = none) (key : Int) (l n₀ N : Nat) (J Jx : List Int → World → Prop)
    (hY : ∀ m pre x W, J pre W → pre.length < N → YieldAt F m Try.prog l #[.int .i64 x] W fun e W' =>
      (e = .returned (.bool true) ∧ J (pre ++ [x]) W' ∧ Below n₀ W W') ∨ (e = .returned (.bool false) ∧ Jx (pre ++ [x]) W')) (T : BT) :
    ∀ (n : Nat) (pre : List Int) (W : World), Tr W T → (∀ x, T.has x → x < n₀) → J pre W → pre.length + (T.down key).length ≤ N →
      CallsIn F n Try.prog 37 #[T.ptr, .int .i64 key, .func (.yield l) #[] #[]] W fun e W' =>
        (e = .returned (.bool true) ∧ J (pre ++ T.down key) W' ∧ Below n₀ W W') ∨ (e = .returned (.bool false) ∧ ∃ q, q <+: T.down key ∧ Jx (pre ++ q) W') := by
  induction T with
  | nil =>
    intro n pre W _ _ hJ _
    show CallsIn F n Try.prog 37 #[.pointer none, .int .i64 key, .func (.yield l) #[] #[]] W _
    refine callsIn_of_wp Try.func37 rfl h6 ?_ hro
    simp only [Try.ntmps37, List.size_toArray, List.length_cons, List.length_nil, Nat.reduceAdd, Nat.reduceSub, Array.replicate_succ, Array.replicate_zero, List.push_toArray, List.append_toArray, List.nil_append, List.cons_append]
    gi_wp2
    go_ret
    exact .inl ⟨rfl, by simpa [BT.down] using hJ, Below.refl _ _⟩
  | node b k v tr tl ihr ihl =>
    intro n pre W ht hn hJ hN
    show CallsIn F n Try.prog 37 #[.pointer (some ⟨b, 0, none⟩), .int .i64 key, .func (.yield l) #[] #[]] W _
    have hdd : ∀ k : Nat, (F.depth.isSome = true → 1 ≤ k) := fun k h => by rw [hd] at h; cases h
    have hb : b < n₀ := hn b (.inl rfl)
    have hnl : ∀ x, tl.has x → x < n₀ := fun x hx => hn x (.inr (.inr hx))
    have hnr : ∀ x, tr.has x → x < n₀ := fun x hx => hn x (.inr (.inl hx))
    obtain ⟨c0, _, c3, c2, _⟩ := ht.1.cells
    have hl := ht.2.2.1
    have hr := ht.2.1
    obtain ⟨pl, hpl⟩ := tl.ptr_is
    obtain ⟨pr, hpr⟩ := tr.ptr_is
    rw [hpl] at c2
    rw [hpr] at c3
    by_cases hk : k ≤ key
    · have hup : (BT.node b k v tr tl).down key = tl.down key ++ k :: tr.down key := by simp [BT.down, if_pos hk]
      rw [hup] at hN ⊢
      have HN := Lib.hid hN
      simp only [List.length_append, List.length_cons] at hN
      have hy2 : ∀ W1, J (pre ++ tl.down key) W1 → Below n₀ W W1 → YieldAt F (n - 1) Try.prog l #[.int .i64 k] W1 fun e W2 =>
          (e = .returned (.bool true) ∧ J (pre ++ tl.down key ++ [k]) W2 ∧ Below n₀ W W2 ∧ W2.cell? ⟨b, 2, none⟩ = some (.pointer pr) ∧ Tr W2 tr) ∨ (e = .returned (.bool false) ∧ Jx (pre ++ tl.down key ++ [k]) W2) := fun W1 hJ1 hb1 =>
        YieldAt.mono (hY (n - 1) _ k W1 hJ1 (by simp; omega)) fun e W2 h => h.elim
          (fun ⟨he, hj, hb2⟩ => .inl ⟨he, hj, hb1.trans hb2, ((hb1.trans hb2).cell (p := ⟨b, 2, none⟩) hb).trans c3, hr.below (hb1.trans hb2) hnr⟩) .inr
      have ih0 := ihl (n - 1) pre W hl hnl hJ (by omega)
      rw [hpl] at ih0
      have ih1 := ih0.mono (R' := fun e W1 =>
          (e = .returned (.bool true) ∧ W1.cell? ⟨b, 0, none⟩ = some (.int .i64 k) ∧ YieldAt F (n - 1) Try.prog l #[.int .i64 k] W1 fun e W2 =>
            (e = .returned (.bool true) ∧ J (pre ++ tl.down key ++ [k]) W2 ∧ Below n₀ W W2 ∧ W2.cell? ⟨b, 2, none⟩ = some (.pointer pr) ∧ Tr W2 tr) ∨ (e = .returned (.bool false) ∧ Jx (pre ++ tl.down key ++ [k]) W2)) ∨
          (e = .returned (.bool false) ∧ ∃ q, q <+: tl.down key ∧ Jx (pre ++ q) W1))
        (fun e W1 h => h.elim (fun ⟨he, hj, hb1⟩ => .inl ⟨he, (hb1.cell (p := ⟨b, 0, none⟩) hb).trans c0, hy2 W1 hj hb1⟩) .inr)
      have ihr' : ∀ W2, Tr W2 tr → J (pre ++ tl.down key ++ [k]) W2 → CallsIn F (n - 1) Try.prog 37 #[.pointer pr, .int .i64 key, .func (.yield l) #[] #[]] W2 fun e W' =>
          (e = .returned (.bool true) ∧ J (pre ++ tl.down key ++ [k] ++ tr.down key) W' ∧ Below n₀ W2 W') ∨ (e = .returned (.bool false) ∧ ∃ q, q <+: tr.down key ∧ Jx (pre ++ tl.down key ++ [k] ++ q) W') := by
        intro W2 h2 hJ2
        have h := ihr (n - 1) (pre ++ tl.down key ++ [k]) W2 h2 hnr hJ2 (by simp; omega)
        rwa [hpr] at h
      have HR := Lib.hid ihr'
      clear hy2 ihl ihr ih0 ihr' hpl hpr ht hn hnl hnr hl hr hup hN
      refine callsIn_of_wp Try.func37 rfl h6 ?_ hro
      simp only [Try.ntmps37, List.size_toArray, List.length_cons, List.length_nil, Nat.reduceAdd, Nat.reduceSub, Array.replicate_succ, Array.replicate_zero, List.push_toArray, List.append_toArray, List.nil_append, List.cons_append]
      gi_wp2_with (first
        | ((try refine ⟨hdd _, ?_⟩); gi_at_call 37; refine ih1.mono ?_; clear ih1; rintro e W1 (⟨rfl, c1', fn, tmps, assign, body, hy, hR⟩ | ⟨rfl, q, hq, hx1⟩))
        | ((try refine ⟨hdd _, ?_⟩); refine hR.mono ?_; clear hR; rintro e W2 (⟨rfl, hJ2, hb2, c2', hr2⟩ | ⟨rfl, hx2⟩))
        | ((try refine ⟨hdd _, ?_⟩); gi_at_call 37; refine (HR.out _ hr2 hJ2).mono ?_; rintro e W3 (⟨rfl, hJ3, hb3⟩ | ⟨rfl, q, hq, hx3⟩)))
      · go_ret
        exact .inl ⟨rfl, by simpa [List.append_assoc] using hJ3, hb2.trans hb3⟩
      · go_ret
        obtain ⟨r, hr'⟩ := hq
        exact .inr ⟨rfl, tl.down key ++ k :: q, ⟨r, by simp [← hr']⟩, by simpa [List.append_assoc] using hx3⟩
      · go_ret
        exact .inr ⟨rfl, tl.down key ++ [k], ⟨tr.down key, by simp⟩, by simpa [List.append_assoc] using hx2⟩
      · refine ⟨fun _ h => (by cases h), ?_⟩
        gi_wp2
        go_ret
        exact .inr ⟨rfl, q, hq.trans (List.prefix_append _ _), hx1⟩
    · have hup : (BT.node b k v tr tl).down key = tr.down key := by simp [BT.down, if_neg hk]
      rw [hup] at hN ⊢
      have h := ihr (n - 1) pre W hr hnr hJ hN
      rw [hpr] at h
      have HR := Lib.hid h
      clear ihl ihr hpl hpr ht hn hnl hnr hl hr hup hN h
      have hk' : key < k := by omega
      have hun : ∀ b : Bool, (some undef = some (Value.bool b)) = False := by intro b; simp [undef]
      clear hk
      refine callsIn_of_wp Try.func37 rfl h6 ?_ hro
      simp only [Try.ntmps37, List.size_toArray, List.length_cons, List.length_nil, Nat.reduceAdd, Nat.reduceSub, Array.replicate_succ, Array.replicate_zero, List.push_toArray, List.append_toArray, List.nil_append, List.cons_append]
      gi_wp2_with fail
      refine ⟨fun _ h => (by cases h), ?_⟩
      gi_wp2_with ((try refine ⟨hdd _, ?_⟩); gi_at_call 37; refine HR.out.mono ?_; rintro e W3 (⟨rfl, hJ3, hb3⟩ | ⟨rfl, q, hq, hx3⟩))
      · go_ret
        exact .inl ⟨rfl, hJ3, hb3⟩
      · go_ret
        exact .inr ⟨rfl, q, hq, hx3⟩

set_option maxHeartbeats 1000000 in
theorem from1_in (F : Fence) (hd : F.depth = none) (n : Nat) (h5 : F.fn 34) (h6 : F.fn 35) (hro : F.round = none) (key : Int) (l Bt Bk' B n₀ : Nat) (T : BT) (J Jx : List Int → World → Prop)
    (hY : ∀ pre x W, J pre W → pre.length < (T.up key).length → YieldAt F (n - 1) Try.prog l #[.int .i64 x] W fun e W' =>
      (e = .returned (.bool true) ∧ J (pre ++ [x]) W' ∧ Below n₀ W W') ∨ (e = .returned (.bool false) ∧ Jx (pre ++ [x]) W'))
    (W : World) (hBt : W.cell? ⟨Bt, 0, none⟩ = some (.pointer (some ⟨B, 0, none⟩))) (hBk : W.cell? ⟨Bk', 0, none⟩ = some (.int .i64 key)) (hB : W.cell? ⟨B, 0, none⟩ = some T.ptr) (hT : Tr W T) (hn : ∀ x, T.has x → x < n₀) (hJa : AbidesFrom W.heap.size J) (h0 : J [] W) :
    CallsIn F n Try.prog 34 #[.func (.yield l) #[] #[], .pointer (some ⟨Bt, 0, none⟩), .pointer (some ⟨Bk', 0, none⟩)] W fun e W' => (∃ v, e = .returned v) ∧
      ((∃ ys, ys = T.up key ∧ J ys W') ∨ (∃ pre, pre <+: T.up key ∧ Jx pre W')) := by
  have hdd : ∀ k : Nat, (F.depth.isSome = true → 1 ≤ k) := fun k h => by rw [hd] at h; cases h
  have h0' : J [] W.drew := hJa _ _ _ none h0 ⟨rfl, rfl, rfl, Nat.le_refl _, fun _ _ _ => rfl⟩ (fun r e => by cases e)
  have hp := rise_in F hd h6 hro key l n₀ (T.up key).length J Jx (fun m pre x W hj hl => YieldAt.anyDepth hd m (hY pre x W hj hl)) T (n - 1) [] W.drew (hT.keep (Only.refl (fun _ => False) W).drew fun _ _ => id) hn h0' (by simp)
  obtain ⟨p, hpp⟩ := T.ptr_is
  rw [hpp] at hp hB
  have HP : Hid (CallsIn F (n - 1) Try.prog 35 #[.pointer p, .int .i64 key, .func (.yield l) #[] #[]] W.drew fun e W' => ∃ bb, e = .returned (.bool bb) ∧ Hid ((∃ ys, ys = T.up key ∧ J ys W') ∨ (∃ pre, pre <+: T.up key ∧ Jx pre W'))) :=
    hp.mono fun e W' h => h.elim (fun ⟨he, hJ1, _⟩ => ⟨true, he, .inl ⟨_, rfl, by simpa using hJ1⟩⟩) fun ⟨he, q, hq, hx⟩ => ⟨false, he, .inr ⟨q, hq, by simpa using hx⟩⟩
  clear hp hY hpp hT hn
  refine callsIn_of_wp Try.func34 rfl h5 ?_ hro
  simp only [Try.ntmps34, List.size_toArray, List.length_cons, List.length_nil, Nat.reduceAdd, Nat.reduceSub, Array.replicate_succ, Array.replicate_zero, List.push_toArray, List.append_toArray, List.nil_append, List.cons_append]
  gi_wp2_with fail
  gi_region_with ((try refine ⟨hdd _, ?_⟩); gi_at_call 35; refine HP.out.mono ?_; clear HP; rintro e W1 ⟨bb, rfl, HX⟩)
  all_goals
    go_end0
    exact ⟨⟨_, rfl⟩, HX.out⟩

set_option maxHeartbeats 1000000 in
theorem from_in (F : Fence) (n : Nat) (h4 : F.fn 29) (hro : F.round = none) (p : Option Addr) (key : Int) (w : World) :
    CallsIn F n Try.prog 29 #[.pointer p, .int .i64 key] w fun e w' => e = .returned (.func (.func 34) #[] #[.pointer (some ⟨w.heap.size, 0, none⟩), .pointer (some ⟨w.heap.size + 1, 0, none⟩)]) ∧ w' = (w.alloc (.cells #[.pointer p] 55)).alloc (.cells #[.int .i64 key] 3) := by
  refine callsIn_of_wp Try.func29 rfl h4 ?_ hro
  simp only [Try.ntmps29, List.size_toArray, List.length_cons, List.length_nil, Nat.reduceAdd, Nat.reduceSub, Array.replicate_succ, Array.replicate_zero, List.push_toArray, List.append_toArray, List.nil_append, List.cons_append]
  gi_wp2
  go_ret
  exact ⟨rfl, rfl⟩

def encI (x : Int) : Array Value := #[.int .i64 x]
theorem from_stops (F : Fence) (hd : F.depth = none) (n : Nat) (h5 : F.fn 34) (h6 : F.fn 35) (hro : F.round = none) (key : Int) (Bt Bk' B n₀ : Nat) (T : BT) (w : World) (hBt : w.cell? ⟨Bt, 0, none⟩ = some (.pointer (some ⟨B, 0, none⟩))) (hBk : w.cell? ⟨Bk', 0, none⟩ = some (.int .i64 key)) (hlt : Bt < w.heap.size ∧ Bk' < w.heap.size) (hn₀ : n₀ ≤ w.heap.size)
    (hB : w.cell? ⟨B, 0, none⟩ = some T.ptr) (hBn : B < w.heap.size) (hT : Tr w T) (hn : ∀ x, T.has x → x < n₀) :
    SeqStopsK F n Try.prog 34 #[.pointer (some ⟨Bt, 0, none⟩), .pointer (some ⟨Bk', 0, none⟩)] encI (Below n₀) (fun ys => ys = T.up key) (fun pre => pre <+: T.up key) (T.up key).length w := fun l J Jx W hW hJa _ hY h0 =>
  from1_in F hd n h5 h6 hro key l Bt Bk' B n₀ T J Jx hY W ((hW.cell (p := ⟨Bt, 0, none⟩) hlt.1).trans hBt) ((hW.cell (p := ⟨Bk', 0, none⟩) hlt.2).trans hBk) ((hW.cell (p := ⟨B, 0, none⟩) hBn).trans hB) (hT.below hW fun x hx => by have := hn x hx; omega) hn hJa h0


set_option maxHeartbeats 1000000 in
theorem back1_in (F : Fence) (hd : F.depth = none) (n : Nat) (h5 : F.fn 36) (h6 : F.fn 37) (hro : F.round = none) (key : Int) (l Bt Bk' B n₀ : Nat) (T : BT) (J Jx : List Int → World → Prop)
    (hY : ∀ pre x W, J pre W → pre.length < (T.down key).length → YieldAt F (n - 1) Try.prog l #[.int .i64 x] W fun e W' =>
      (e = .returned (.bool true) ∧ J (pre ++ [x]) W' ∧ Below n₀ W W') ∨ (e = .returned (.bool false) ∧ Jx (pre ++ [x]) W'))
    (W : World) (hBt : W.cell? ⟨Bt, 0, none⟩ = some (.pointer (some ⟨B, 0, none⟩))) (hBk : W.cell? ⟨Bk', 0, none⟩ = some (.int .i64 key)) (hB : W.cell? ⟨B, 0, none⟩ = some T.ptr) (hT : Tr W T) (hn : ∀ x, T.has x → x < n₀) (hJa : AbidesFrom W.heap.size J) (h0 : J [] W) :
    CallsIn F n Try.prog 36 #[.func (.yield l) #[] #[], .pointer (some ⟨Bt, 0, none⟩), .pointer (some ⟨Bk', 0, none⟩)] W fun e W' => (∃ v, e = .returned v) ∧
      ((∃ ys, ys = T.down key ∧ J ys W') ∨ (∃ pre, pre <+: T.down key ∧ Jx pre W')) := by
  have hdd : ∀ k : Nat, (F.depth.isSome = true → 1 ≤ k) := fun k h => by rw [hd] at h; cases h
  have h0' : J [] W.drew := hJa _ _ _ none h0 ⟨rfl, rfl, rfl, Nat.le_refl _, fun _ _ _ => rfl⟩ (fun r e => by cases e)
  have hp := fall_in F hd h6 hro key l n₀ (T.down key).length J Jx (fun m pre x W hj hl => YieldAt.anyDepth hd m (hY pre x W hj hl)) T (n - 1) [] W.drew (hT.keep (Only.refl (fun _ => False) W).drew fun _ _ => id) hn h0' (by simp)
  obtain ⟨p, hpp⟩ := T.ptr_is
  rw [hpp] at hp hB
  have HP : Hid (CallsIn F (n - 1) Try.prog 37 #[.pointer p, .int .i64 key, .func (.yield l) #[] #[]] W.drew fun e W' => ∃ bb, e = .returned (.bool bb) ∧ Hid ((∃ ys, ys = T.down key ∧ J ys W') ∨ (∃ pre, pre <+: T.down key ∧ Jx pre W'))) :=
    hp.mono fun e W' h => h.elim (fun ⟨he, hJ1, _⟩ => ⟨true, he, .inl ⟨_, rfl, by simpa using hJ1⟩⟩) fun ⟨he, q, hq, hx⟩ => ⟨false, he, .inr ⟨q, hq, by simpa using hx⟩⟩
  clear hp hY hpp hT hn
  refine callsIn_of_wp Try.func36 rfl h5 ?_ hro
  simp only [Try.ntmps36, List.size_toArray, List.length_cons, List.length_nil, Nat.reduceAdd, Nat.reduceSub, Array.replicate_succ, Array.replicate_zero, List.push_toArray, List.append_toArray, List.nil_append, List.cons_append]
  gi_wp2_with fail
  gi_region_with ((try refine ⟨hdd _, ?_⟩); gi_at_call 37; refine HP.out.mono ?_; clear HP; rintro e W1 ⟨bb, rfl, HX⟩)
  all_goals
    go_end0
    exact ⟨⟨_, rfl⟩, HX.out⟩

set_option maxHeartbeats 1000000 in
theorem back_in (F : Fence) (n : Nat) (h4 : F.fn 30) (hro : F.round = none) (p : Option Addr) (key : Int) (w : World) :
    CallsIn F n Try.prog 30 #[.pointer p, .int .i64 key] w fun e w' => e = .returned (.func (.func 36) #[] #[.pointer (some ⟨w.heap.size, 0, none⟩), .pointer (some ⟨w.heap.size + 1, 0, none⟩)]) ∧ w' = (w.alloc (.cells #[.pointer p] 55)).alloc (.cells #[.int .i64 key] 3) := by
  refine callsIn_of_wp Try.func30 rfl h4 ?_ hro
  simp only [Try.ntmps30, List.size_toArray, List.length_cons, List.length_nil, Nat.reduceAdd, Nat.reduceSub, Array.replicate_succ, Array.replicate_zero, List.push_toArray, List.append_toArray, List.nil_append, List.cons_append]
  gi_wp2
  go_ret
  exact ⟨rfl, rfl⟩

theorem back_stops (F : Fence) (hd : F.depth = none) (n : Nat) (h5 : F.fn 36) (h6 : F.fn 37) (hro : F.round = none) (key : Int) (Bt Bk' B n₀ : Nat) (T : BT) (w : World) (hBt : w.cell? ⟨Bt, 0, none⟩ = some (.pointer (some ⟨B, 0, none⟩))) (hBk : w.cell? ⟨Bk', 0, none⟩ = some (.int .i64 key)) (hlt : Bt < w.heap.size ∧ Bk' < w.heap.size) (hn₀ : n₀ ≤ w.heap.size)
    (hB : w.cell? ⟨B, 0, none⟩ = some T.ptr) (hBn : B < w.heap.size) (hT : Tr w T) (hn : ∀ x, T.has x → x < n₀) :
    SeqStopsK F n Try.prog 36 #[.pointer (some ⟨Bt, 0, none⟩), .pointer (some ⟨Bk', 0, none⟩)] encI (Below n₀) (fun ys => ys = T.down key) (fun pre => pre <+: T.down key) (T.down key).length w := fun l J Jx W hW hJa _ hY h0 =>
  back1_in F hd n h5 h6 hro key l Bt Bk' B n₀ T J Jx hY W ((hW.cell (p := ⟨Bt, 0, none⟩) hlt.1).trans hBt) ((hW.cell (p := ⟨Bk', 0, none⟩) hlt.2).trans hBk) ((hW.cell (p := ⟨B, 0, none⟩) hBn).trans hB) (hT.below hW fun x hx => by have := hn x hx; omega) hn hJa h0

end Go.Proofs.Ytkieifkbkmdgdaa
