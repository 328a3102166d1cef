/-
  THE PROGRAM's frames: the iterator over the records of bytes, by contract; a drawn region inside a round walked under one condition. Of bytes at most 2^47.
-/
import Derived.RangeFuncKeeps
import Derived.RangeFuncNested
import Derived.RangeFuncBound
import Derived.RangeFuncCalls
import Derived.RangeFuncLeaves
import Derived.RangeFuncBox
import Derived.Shelf.Abstract
import Derived.Shelf.RegionOpen
import Derived.WalkKit
import Derived.OwnWalkIn
import Derived.TacticsInMore
import Derived.LoopNIn
import Derived.LoopIn
import Derived.Maps.AppendAt
import Derived.Test.YtpmigpgkicacpaaWalF
import Derived.Test.YtpmigpgkicacpaaHeld
namespace Go.Proofs.Ytpmigpgkicacpaa
open Go.RowKit Go.Shelf

attribute [local go_sem] Oper.semAt_some

/-! ### a region of a round, walked as outside -/
section
variable {P : Program} {ops : Array Oper} {Q : Exit → Act → World → Prop} {md : Region.Mode} {S : World → Prop}
theorem oper_round {o : Oper} {a : Act} {w : World} {K : Act → World → Prop} (l n : Nat) (hnd : ∀ c, o.op ≠ .defer c) (h : o.wp P a w K Q) : o.wpIn (Fence.wide.inRound l) n P a w K Q := by
  unfold Oper.wp at h
  unfold Oper.wpIn
  refine ⟨fun _ _ => trivial, ?_⟩
  rw [show (Fence.wide.inRound l).round = some l from rfl, Oper.semAt_some l _ _ hnd]
  have hd : (Fence.wide.inRound l).depth.isSome = true → 1 ≤ n := fun h => by cases h
  generalize (execOp a.eval o).run P w = r at h ⊢
  cases r with
  | ok x w' =>
    cases x <;> simp only [Oper.upon, Oper.uponIn] at h ⊢ <;>
      first
        | exact h
        | exact ⟨hd, CallsIn.inRound l (callsIn_wide.2 h)⟩
        | (refine ⟨hd, fun c cs _ => ?_⟩; obtain ⟨v, w'', hr, hs⟩ := h c cs; exact ⟨v, w'', hr, stepsIn_wide.2 hs⟩)
  | halt x w' => cases x <;> simp only [Oper.upon, Oper.uponIn] at h ⊢ <;> exact h
theorem wpAnyIn_of_plain (l n : Nat) (hnd : ∀ (i : Nat) o, ops[i]? = some o → ∀ c, o.op ≠ .defer c) (hQ : ¬ LetsOut Q) : ∀ (fuel : Nat) (listed : Array Bool) (a : Act) (w : World), wpAny P md ops Q fuel listed a w → wpAnyIn (Fence.wide.inRound l) n P md ops Q fuel listed a w
  | 0, _, _, _, h => h
  | fuel + 1, listed, a, w, h => ⟨h.1, fun i hi => by
      have hh := h.2 i hi
      unfold wpOp at hh
      unfold wpOpIn
      cases ho : ops[i]? with
      | none =>
        simp only [ho] at hh
        exact wpAnyIn_of_plain l n hnd hQ fuel _ _ _ hh
      | some o =>
        simp only [ho] at hh ⊢
        split
        · rename_i hw
          rw [if_pos hw] at hh
          rcases hh with hh | hh
          · exact oper_round l n (hnd i o ho) (Oper.wp_mono (fun a' w' h' => wpAnyIn_of_plain l n hnd hQ fuel _ _ _ h') hh)
          · exact absurd hh.2 hQ
        · rename_i hw
          rw [if_neg hw] at hh
          exact ⟨fun _ _ => trivial, wpAnyIn_of_plain l n hnd hQ fuel _ _ _ hh⟩⟩
theorem wpIn_region_held {id l n : Nat} {a : Act} {w : World} (hm : P.follows .mixedOrders = true) (hnd : ∀ (i : Nat) o, ops[i]? = some o → ∀ c, o.op ≠ .defer c) (hQ : ¬ LetsOut Q) (hS : S w.drew)
    (h : S w.drew → wpAnyH P .any ops Q S ops.size (Array.replicate ops.size false) a w.drew) : (Code.region id ops true).wpIn (Fence.wide.inRound l) n P Q a w :=
  wpIn_region_any hm (wpAnyIn_of_plain l n hnd hQ _ _ _ _ (wpAny_of_held _ _ _ _ (h hS)))
end

/-! ### the iterator -/
theorem byt_back {w w' : World} {B : Nat} {v : Value} {l : List UInt8} (h : Byt w' B v l) (hb : Below B w w') : Byt w B v l := by
  obtain ⟨ao, cap, rfl, h1, h2, h3, h4⟩ := h
  refine ⟨ao, cap, rfl, h1, h2, h3, fun hl => ?_⟩
  obtain ⟨b, off, rfl, hbB, hc⟩ := h4 hl
  exact ⟨b, off, rfl, hbB, fun j hj => (hb.cell (p := ⟨b, off + j, none⟩) hbB).symm.trans (hc j hj)⟩

/-- A record that the iterator yields, and the place behind it. -/
structure RecV (w0 : World) (B : Nat) where
  pos : Nat
  v : Value
  l : List UInt8
  hpos : pos ≤ 140737488355328
  hl : l.length ≤ 4096
  hB : Byt w0 B v l
def encR {w0 : World} {B : Nat} (x : RecV w0 B) : Array Value := #[.int .i64 x.pos, x.v]
def recsOf {w0 : World} {B : Nat} (pre : List (RecV w0 B)) : List (List UInt8) := pre.map (·.l)
def endOf {w0 : World} {B : Nat} (pre : List (RecV w0 B)) : Nat := match pre.getLast? with | some x => x.pos | none => 0
theorem endOf_snoc {w0 : World} {B : Nat} (pre : List (RecV w0 B)) (x : RecV w0 B) : endOf (pre ++ [x]) = x.pos := by simp [endOf]
theorem recsOf_snoc {w0 : World} {B : Nat} (pre : List (RecV w0 B)) (x : RecV w0 B) : recsOf (pre ++ [x]) = recsOf pre ++ [x.l] := by simp [recsOf]
/-- What has come stands ahead. -/
structure Came {w0 : World} {B : Nat} (bl : List UInt8) (pre : List (RecV w0 B)) : Prop where
  ok : ∀ r ∈ recsOf pre, okR r
  len : endOf pre = (frs (recsOf pre)).length
  split : bl = frs (recsOf pre) ++ bl.drop (endOf pre)
theorem frs_many : ∀ (L : List (List UInt8)), (∀ r ∈ L, okR r) → L.length ≤ (frs L).length
  | [], _ => Nat.zero_le _
  | r :: L, h => by
    have := frs_many L fun x hx => h x (by simp [hx])
    rw [frs_cons, List.length_append, List.length_cons, frm_length]
    omega
theorem Came.le {w0 : World} {B : Nat} {bl : List UInt8} {pre : List (RecV w0 B)} (h : Came bl pre) : endOf pre ≤ bl.length := by
  rw [h.len]
  have := congrArg List.length h.split
  rw [List.length_append] at this
  omega
theorem Came.count {w0 : World} {B : Nat} {bl : List UInt8} {pre : List (RecV w0 B)} (h : Came bl pre) : pre.length ≤ endOf pre := by
  rw [h.len]
  have := frs_many _ h.ok
  simpa [recsOf] using this
theorem Came.next {w0 : World} {B : Nat} {bl : List UInt8} {pre : List (RecV w0 B)} (h : Came bl pre) (x : RecV w0 B) (hf : firstR (bl.drop (endOf pre)) = some x.l) (hp : x.pos = endOf pre + (6 + x.l.length)) : Came bl (pre ++ [x]) ∧ x.pos ≤ bl.length ∧ endOf pre < x.pos := by
  obtain ⟨h1, h2⟩ := firstR_some hf
  have hn : frs (recsOf (pre ++ [x])) = frs (recsOf pre) ++ frm x.l := by rw [recsOf_snoc, frs_append, frs_one]
  have hsp : bl = frs (recsOf (pre ++ [x])) ++ bl.drop (endOf (pre ++ [x])) := by
    rw [hn, endOf_snoc, hp, ← List.drop_drop, List.append_assoc, ← h2]
    exact h.split
  have hc : Came bl (pre ++ [x]) := ⟨fun r hr => by
      rw [recsOf_snoc] at hr
      rcases List.mem_append.1 hr with hr | hr
      · exact h.ok r hr
      · rw [List.mem_singleton.1 hr]; exact h1, by rw [hn, endOf_snoc, List.length_append, frm_length, hp, h.len], hsp⟩
  have := hc.le
  rw [endOf_snoc] at this
  exact ⟨hc, this, by omega⟩
theorem Came.done {w0 : World} {B : Nat} {bl : List UInt8} {pre : List (RecV w0 B)} (h : Came bl pre) (hf : firstR (bl.drop (endOf pre)) = none) : Rds bl (recsOf pre) (endOf pre) := ⟨h.ok, ⟨_, h.split, hf⟩, h.len⟩
theorem came_nil {w0 : World} {B : Nat} (bl : List UInt8) : Came bl ([] : List (RecV w0 B)) := ⟨(fun r h => by cases h), rfl, rfl⟩

/-- What a round keeps: what lay below n₀, and block Bs. -/
def KeepB (n₀ Bs : Nat) (A C : World) : Prop := Below n₀ A C ∧ C.heap[Bs]? = A.heap[Bs]?
theorem KeepB.trans {n₀ Bs : Nat} {A C D : World} (h : KeepB n₀ Bs A C) (k : KeepB n₀ Bs C D) : KeepB n₀ Bs A D := ⟨h.1.trans k.1, k.2.trans h.2⟩
theorem KeepB.of {n₀ Bs : Nat} {A C : World} (h : Below A.heap.size A C) (hn : n₀ ≤ A.heap.size) (hb : Bs < A.heap.size) : KeepB n₀ Bs A C := ⟨h.mono hn, h.block Bs hb⟩

set_option maxRecDepth 100000 in
set_option maxHeartbeats 4000000 in
theorem frames1_in (n : Nat) (l Bs n₀ B : Nat) (v0 : Value) (w0 : World) (bl : List UInt8) (hlim : bl.length ≤ 140737488355328) (hB : Byt w0 B v0 bl) (hBn : B ≤ n₀) (J Jx : List (RecV w0 B) → World → Prop)
    (hY : ∀ pre x W, J pre W → pre.length < bl.length → YieldAt Fence.wide (n - 1) Try.prog l (encR x) W fun e W' =>
      (e = .returned (.bool true) ∧ J (pre ++ [x]) W' ∧ KeepB n₀ Bs W W') ∨ (e = .returned (.bool false) ∧ Jx (pre ++ [x]) W'))
    (W : World) (hn₀ : n₀ ≤ W.heap.size) (hJa : AbidesFrom W.heap.size J) (h0W : Below B w0 W) (hBs : Bs < W.heap.size) (hbox : W.cell? ⟨Bs, 0, none⟩ = some v0) (h0 : J [] W) :
    CallsIn Fence.wide n Try.prog 33 #[.func (.yield l) #[] #[], .pointer (some ⟨Bs, 0, none⟩)] W fun e W' => (∃ v, e = .returned v) ∧
      ((∃ ys, Rds bl (recsOf ys) (endOf ys) ∧ J ys W') ∨ (∃ pre, True ∧ Jx pre W')) := by
  obtain ⟨a0, c0, rfl, _⟩ := id hB
  have hro : Fence.wide.round = none := rfl
  refine callsIn_of_wp Try.func33 rfl trivial ?_ hro
  simp only [Try.ntmps33, List.size_toArray, List.length_cons, List.length_nil, Nat.reduceAdd, Nat.reduceSub, Array.replicate_succ, Array.replicate_zero, List.push_toArray, List.append_toArray, List.nil_append, List.cons_append]
  gi_wp2
  gi_loopw [3] (fun i wr => ∃ pre : List (RecV w0 B), i = .int .i64 (endOf pre) ∧ Came bl pre ∧ J pre wr ∧ KeepB n₀ Bs W wr)
    (fun i _ => bl.length - (intOf i).toNat)
  case atStart => exact ⟨[], rfl, came_nil bl, h0, Below.refl _ _, rfl⟩
  case round =>
    obtain ⟨pre, rfl, hcame, hJs, hnx⟩ := hrel
    have hel := hcame.le
    have hco := hcame.count
    obtain ⟨m, hm⟩ : ∃ m, m = endOf pre := ⟨_, rfl⟩
    obtain ⟨a', k1, b1⟩ := byt_from hB m m rfl (by omega)
    have hbw : Below B w0 wr := h0W.trans (hnx.1.mono hBn)
    have hsz := hnx.1.size
    have HF := Lib.hid (first_any _ B _ wr (b1.keep hbw) (by omega) (by rw [List.length_drop]; omega))
    have cB : wr.cell? ⟨Bs, 0, none⟩ = some (.slice a0 bl.length c0) := (World.cell?_of_block (a := ⟨Bs, 0, none⟩) hnx.2).trans hbox
    have e1 := fun u => (k1 u).1
    have g1 := fun u => (k1 u).2
    have HM := Lib.hid hm
    have HC := Lib.hid hcame
    rw [← hm] at hel hco ⊢
    have HK := Lib.hid hnx
    have HBW := Lib.hid hbw
    clear hm hcame k1 b1 hnx hbw
    cases hfr : firstR (bl.drop m) with
    | none =>
      rw [hfr] at HF
      have HD : Hid (Rds bl (recsOf pre) (endOf pre)) := HC.out.done (by rw [← HM.out]; exact hfr)
      have H1 : Hid (CallsIn Fence.wide (n - 1) Try.prog 34 #[.slice a' (bl.length - m) (c0 - m)] wr fun e w' => e = .returned (.tuple #[.slice none 0 0, .bool false]) ∧ J pre w') :=
        callsIn_wide.2 (HF.out.mono fun e w' ⟨hb, h⟩ => by
          rcases h with ⟨_, he⟩ | ⟨r, u, h, _⟩
          · exact ⟨he, hJa _ _ _ none hJs ⟨hb.os, hb.tape, hb.output, hb.size, fun k hk _ => hb.block k hk⟩ (fun r e => by cases e)⟩
          · cases h)
      clear hfr HF hJs
      gi_wp2_with (refine ⟨trivial, (fun h => by cases h), ?_⟩; refine H1.out.mono ?_; rintro e w1 ⟨rfl, hJ1⟩)
      refine bodyPost_ret (results_none rfl _ _ _) rfl ?_
      exact ⟨⟨_, rfl⟩, .inl ⟨_, HD.out, hJ1⟩⟩
    | some r =>
      rw [hfr] at HF
      have HR := Lib.hid hfr
      have hr := (firstR_some hfr).1
      obtain ⟨hr1, hr2⟩ := hr
      have hle : m + (6 + r.length) ≤ bl.length := by
        have h := (firstR_some hfr).2
        have := congrArg List.length h
        rw [List.length_append, frm_length, List.length_drop, List.length_drop] at this
        omega
      obtain ⟨q, hq⟩ : ∃ q, q = r.length := ⟨_, rfl⟩
      have H1 : Hid (CallsIn Fence.wide (n - 1) Try.prog 34 #[.slice a' (bl.length - m) (c0 - m)] wr fun e w1 => ∃ a2 c2, e = .returned (.tuple #[.slice a2 q c2, .bool true]) ∧ KeepB n₀ Bs W w1 ∧
          YieldAt Fence.wide (n - 1) Try.prog l #[.int .i64 ((m : Int) + (6 + (q : Int))), .slice a2 q c2] w1 fun e W' =>
            (e = .returned (.bool true) ∧ (∃ pre' : List (RecV w0 B), endOf pre' = m + (6 + q) ∧ Came bl pre' ∧ J pre' W') ∧ KeepB n₀ Bs w1 W') ∨ (e = .returned (.bool false) ∧ ∃ pre', Jx pre' W')) :=
        callsIn_wide.2 (HF.out.mono fun e w1 ⟨hb, h⟩ => by
          subst hq
          rcases h with ⟨h, _⟩ | ⟨r', u, h, he, hu⟩
          · cases h
          · obtain rfl := Option.some.inj h
            have hlen := hu
            obtain ⟨a2, c2, rfl, _⟩ := hlen
            have hx := HC.out.next ⟨m + (6 + r.length), .slice a2 r.length c2, r, by omega, hr2, byt_back hu HBW.out⟩ (by rw [← HM.out]; exact HR.out) (by rw [← HM.out])
            refine ⟨a2, c2, he, HK.out.trans (.of hb (by omega) (by have := HK.out.1.size; omega)), ?_⟩
            have hJ1 : J pre w1 := hJa _ _ _ none hJs ⟨hb.os, hb.tape, hb.output, hb.size, fun k hk _ => hb.block k hk⟩ (fun r e => by cases e)
            have hy := hY pre ⟨m + (6 + r.length), .slice a2 r.length c2, r, by omega, hr2, byt_back hu HBW.out⟩ w1 hJ1 (by omega)
            have e5 : encR (⟨m + (6 + r.length), .slice a2 r.length c2, r, by omega, hr2, byt_back hu HBW.out⟩ : RecV w0 B) = #[.int .i64 ((m : Int) + (6 + (r.length : Int))), .slice a2 r.length c2] := by
              show #[Value.int .i64 ((m + (6 + r.length) : Nat) : Int), _] = _
              rw [show ((m + (6 + r.length) : Nat) : Int) = (m : Int) + (6 + (r.length : Int)) by omega]
            rw [e5] at hy
            refine YieldAt.mono hy fun e W' h => ?_
            rcases h with ⟨he, hj, hk⟩ | ⟨he, hj⟩
            · exact .inl ⟨he, ⟨_, by rw [endOf_snoc], hx.1, hj⟩, hk⟩
            · exact .inr ⟨he, _, hj⟩)
      rw [← hq] at hr1 hr2 hle
      clear hfr HF hJs hq HC HM HR
      gi_wp2_with (first
        | (refine ⟨trivial, (fun h => by cases h), ?_⟩; refine H1.out.mono ?_; rintro e w1 ⟨a2, c2, rfl, hk1, fn, tmps, assign, body, hy, hR⟩; have HK1 := Lib.hid hk1; clear hk1)
        | (refine ⟨(fun h => by cases h), ?_⟩; refine hR.mono ?_; rintro e w2 (⟨rfl, hj, hk2⟩ | ⟨rfl, hj⟩)))
      · go_roundw
        case rel =>
          obtain ⟨pre', he, hc, hj'⟩ := hj
          exact ⟨pre', by rw [he]; congr 1, hc, hj', HK1.out.trans hk2⟩
        case measure => simp [intOf]; omega
      · refine bodyPost_ret (results_none rfl _ _ _) rfl ?_
        obtain ⟨pre', hj'⟩ := hj
        exact ⟨⟨_, rfl⟩, .inr ⟨pre', trivial, hj'⟩⟩
end Go.Proofs.Ytpmigpgkicacpaa
