/-
  PROVED: casebooklaw14.TallyOne answers true and leaves its argument as it was, for any tries: the row's own reading and nothing else is assumed.
-/
import Derived.Test.YtiidmiioegdfaaaTalF
import Derived.Test.YtiidmiioegdfaaaClockV
import Derived.Deep.DeepCutAuto
import Derived.Laws.BitsLemmas
namespace Go.Proofs.Ytiidmiioegdfaaa.TallyOne
open Go.ChangeShapes Go.WideShapes Go.ChangeAt Go.RowKit

/-- The pointers to the first i acceptors. -/
def ptrs (ps : Nat → Nat) (i : Nat) : List Value := (List.range i).map fun k => Value.pointer (some ⟨ps k, 0, none⟩)
theorem ptrs_len (ps : Nat → Nat) (i : Nat) : (ptrs ps i).length = i := by simp [ptrs]
theorem ptrs_snoc {ps ps' : Nat → Nat} {i : Nat} (h : ∀ k, k < i → ps' k = ps k) : ptrs ps i ++ [Value.pointer (some ⟨ps' i, 0, none⟩)] = ptrs ps' (i + 1) := by
  unfold ptrs
  rw [List.range_succ, List.map_append, List.map_singleton]
  congr 1
  refine List.map_congr_left fun k hk => ?_
  rw [h k (List.mem_range.1 hk)]
theorem acc_grown {n p i : Nat} {s : AccV} {w w' : World} {v : Value} {xs : List Value} (h : Acc 76 w p s) (hr : w.ownsRow n 52 1 v i xs) (hg : w.grownBy w' v.ownBlock) : Acc 76 w' p s := by
  rcases hr.2 with ⟨rfl, _⟩ | ⟨g, cap, cur, rfl, _, hh, _⟩
  · exact h.on ⟨hg.os, hg.tape, hg.output, hg.size, fun k hk => hg.block k hk (by simp [Value.ownBlock])⟩
  · refine h.beside hh (by decide) (fun e => ?_) (q := g) ⟨hg.os, hg.tape, hg.output, hg.size, fun k hk hne => hg.block k hk (fun e => hne (by simpa [Value.ownBlock] using e))⟩
    obtain ⟨cs, hc⟩ := h.kind
    rw [e, hh] at hc
    simp only [Option.some.injEq, Obj.cells.injEq] at hc
    exact absurd hc.2.1 (by decide)
/-- The acceptors made so far. -/
structure MadeA (n : Nat) (w : World) (ps : Nat → Nat) (i : Nat) (v : Value) (u : World) : Prop where
  bel : Below n w u
  size : n ≤ u.heap.size
  row : u.ownsRow n 52 1 v i (ptrs ps i)
  acc : ∀ k, k < i → Acc 76 u (ps k) (AccV.first 5)
  low : ∀ k, k < i → n ≤ ps k
  inj : ∀ j k, j < i → k < i → ps j = ps k → j = k
theorem MadeA.five {n : Nat} {w u : World} {ps : Nat → Nat} {v : Value} (h : MadeA n w ps 5 v u) : ∃ rb cap, v = .slice (some ⟨rb, 0, none⟩) 5 cap ∧ Five n ps rb cap (fun _ => AccV.first 5) u := by
  have hr := h.row
  rcases h.row.2 with ⟨rfl, h0⟩ | ⟨g, cap, cur, rfl, hg, hh, hle, hmax, hsz, htake⟩
  · exact absurd h0 (by decide)
  · refine ⟨g, cap, rfl, h.acc, h.low, h.inj, cur, hh, fun k hk => ?_⟩
    have hx : (ptrs ps 5)[k]? = some (Value.pointer (some ⟨ps k, 0, none⟩)) := by simp [ptrs, hk]
    have := hr.cells (g := g) rfl k _ hx
    rw [Addr.add_lit, Nat.zero_add] at this
    simpa [World.cell?, hh] using this
/-- What stands at the head of a round. -/
structure MS (n : Nat) (w : World) (ps : Nat → Nat) (rb cap b7 b8 : Nat) (i : Nat) (ss : Nat → AccV) (tr tn ce : Int) (cv : Value) (cC : List Int) (u : World) : Prop where
  five : Five n ps rb cap ss u
  ch : ChT u b7 ce cv
  row : RowI u cv cC
  tp : BalB u b8 tr tn
  bel : Below n w u
  low : n ≤ b7 ∧ n ≤ b8
  good : Good ss tr tn
  may : mayV tr tn = true
  few : tr ≤ (i : Int)
  cho : ce = 0 ∨ (ce = 2 ∧ ∃ x, cC = [x] ∧ Cho ss tr tn x)
/-- The boxes of a round. -/
structure Bx (b7 b8 b10 b11 : Nat) (ce : Int) (cv : Value) (cC : List Int) (r m : Int) (X : TryV) (u : World) : Prop where
  ch : ChT u b7 ce cv
  row : RowI u cv cC
  tp : BalB u b8 r m
  x : TryB u b10 X
  b : BalB u b11 r m
theorem Bx.kat {b7 b8 b10 b11 : Nat} {ce r m : Int} {cv : Value} {cC : List Int} {X : TryV} : ∀ a b, KAT a b → Bx b7 b8 b10 b11 ce cv cC r m X a → Bx b7 b8 b10 b11 ce cv cC r m X b :=
  fun _ _ h k => ⟨h.ch k.ch, h.row k.row, h.bal k.tp, h.try k.x, h.bal k.b⟩
/-- All blocks of cells stand but counts, acceptors and votes. -/
structure KAV (w w' : World) : Prop where
  size : w.heap.size ≤ w'.heap.size
  same : ∀ (b : Nat) (cs : Array Value) (T : TypeId), w.heap[b]? = some (.cells cs T (0, 0)) → T ≠ 68 → T ≠ 76 → T ≠ 40 → w'.heap[b]? = some (.cells cs T (0, 0))
theorem KAV.of {w w' : World} (h : KAT w w') : KAV w w' := ⟨h.size, fun b cs T hb h1 h2 _ => h.same b cs T hb h1 h2⟩
theorem KAV.vote {w w' : World} {q : Nat} {cs : Array Value} (hq : w.heap[q]? = some (.cells cs 40 (0, 0))) (ho : Only (· = q) w w') : KAV w w' := ⟨ho.size, fun b cs' T hb _ _ h3 => (ho.block b (lt_of_block hb) fun e => by
  subst e
  rw [hq] at hb
  simp only [Option.some.injEq, Obj.cells.injEq] at hb
  exact h3 hb.2.1.symm).trans hb⟩
theorem KAV.row {w w' : World} (h : KAV w w') {v : Value} {L : List Int} (hr : RowI w v L) : RowI w' v L := by
  obtain ⟨ao, cap, rfl, h1, h2, h3, h4⟩ := hr
  refine ⟨ao, cap, rfl, h1, h2, h3, fun hl => ?_⟩
  obtain ⟨b, off, cs, rfl, hb, hc⟩ := h4 hl
  have e := h.same b cs _ hb (by decide) (by decide) (by decide)
  exact ⟨b, off, cs, rfl, e, fun j hj => (World.cell?_of_block (a := ⟨b, off + j, Option.none⟩) (e.trans hb.symm)).trans (hc j hj)⟩
theorem Bx.kav {b7 b8 b10 b11 : Nat} {ce r m : Int} {cv : Value} {cC : List Int} {X : TryV} {a b : World} (h : KAV a b) (k : Bx b7 b8 b10 b11 ce cv cC r m X a) : Bx b7 b8 b10 b11 ce cv cC r m X b :=
  ⟨h.same _ _ _ k.ch (by decide) (by decide) (by decide), h.row k.row, h.same _ _ _ k.tp (by decide) (by decide) (by decide), h.same _ _ _ k.x (by decide) (by decide) (by decide), h.same _ _ _ k.b (by decide) (by decide) (by decide)⟩
/-- The boxes of a round, and the chain that is proposed. -/
structure By (b7 b8 b10 b11 b19 : Nat) (ce : Int) (cv : Value) (cC : List Int) (r m : Int) (X : TryV) (yv : Value) (y : Int) (u : World) : Prop where
  x : Bx b7 b8 b10 b11 ce cv cC r m X u
  c : ChT u b19 2 yv
  r : RowI u yv [y]
theorem By.kat {b7 b8 b10 b11 b19 : Nat} {ce r m y : Int} {cv yv : Value} {cC : List Int} {X : TryV} : ∀ a b, KAT a b → By b7 b8 b10 b11 b19 ce cv cC r m X yv y a → By b7 b8 b10 b11 b19 ce cv cC r m X yv y b :=
  fun a b h k => ⟨Bx.kat a b h k.x, h.ch k.c, h.row k.r⟩
theorem rfv_vote {n rb cap p q : Nat} {w u u' : World} {ps : Nat → Nat} {b7 b8 b10 b11 : Nat} {ce r m : Int} {cv : Value} {cC : List Int} {X : TryV} {ss : Nat → AccV} {s : TalV} (h : RFv n w ps rb cap p (Bx b7 b8 b10 b11 ce cv cC r m X) ss s u) {cs : Array Value} (hq : u.heap[q]? = some (.cells cs 40 (0, 0))) (hn : n ≤ q) (ho : Only (· = q) u u') : RFv n w ps rb cap p (Bx b7 b8 b10 b11 ce cv cC r m X) ss s u' :=
  ⟨h.five.beside hq (by decide) (by decide) (by decide) ho, h.t.beside hq (by decide) (by decide) hn ho, Bx.kav (.vote hq ho) h.box⟩
theorem tries_cell {w : World} {B : Nat} {a : Option Addr} {c : Nat} {L : List TryV} (h : Tries w B (.slice a L.length c) L) {i : Nat} (hi : i < L.length) : ∃ b off, a = some ⟨b, off, none⟩ ∧ b < B ∧ TryCells w b (off + i * 4) L[i] := by
  obtain ⟨ao, cap, he, _, hc⟩ := h
  simp only [Value.slice.injEq] at he
  obtain ⟨b, off, e, hb, hcell⟩ := hc (fun e => by rw [e] at hi; simp at hi)
  exact ⟨b, off, he.1.trans e, hb, hcell i hi⟩
theorem good_ce {s : AccV} {tr tn : Int} (h : GoodA s tr tn) : -9223372036854775808 ≤ s.v.ce ∧ s.v.ce ≤ 9223372036854775807 ∧ s.v.C.length ≤ 1000000 := by
  refine ⟨?_, ?_, by have := h.ok.len; omega⟩ <;> cases hh : s.v.has
  · rw [h.ok.no hh]; show (-9223372036854775808 : Int) ≤ 0; omega
  · rw [(h.has hh).1]; omega
  · rw [h.ok.no hh]; show (0 : Int) ≤ 9223372036854775807; omega
  · rw [(h.has hh).1]; omega
theorem and1 (n : Int) : bits .and .i64 n 1 = n % 2 := by
  have h127 : (BitVec.ofInt 64 1).toNat = 2 ^ 1 - 1 := by decide
  have key : (BitVec.ofInt 64 n &&& BitVec.ofInt 64 1).toNat = (n % ((2 ^ 64 : Nat) : Int)).toNat % 2 ^ 1 := by
    rw [BitVec.toNat_and, BitVec.toNat_ofInt, h127, Nat.and_two_pow_sub_one_eq_mod]
  show IntKind.i64.wrap ((BitVec.ofInt 64 n &&& BitVec.ofInt 64 1).toNat : Nat) = n % 2
  rw [key, IntKind.wrap_i64]
  omega
def bitB (a : Int) (k : Nat) : Bool := decide (bits .and .i64 (a / 2 ^ k) 1 = 1)
theorem bit_no {a : Int} {k : Nat} (h : bitB a k = false) : bits .and .i64 (a / 2 ^ k) 1 = 0 := by
  have h1 : ¬ bits .and .i64 (a / 2 ^ k) 1 = 1 := of_decide_eq_false h
  rw [and1] at h1 ⊢
  omega
theorem bit_yes {a : Int} {k : Nat} (h : bitB a k = true) : bits .and .i64 (a / 2 ^ k) 1 = 1 := of_decide_eq_true h

set_option maxRecDepth 100000 in
set_option maxHeartbeats 16000000 in
theorem walk (v : Value) (l : List TryV) (w : World) (hIn : Tries w w.heap.size v l) :
    Calls Try.prog 5 #[v] w fun e w' => e = .returned (.bool true) ∧ Below w.heap.size w w' := by
  have HT := Lib.hid (fun u => told14_any u)
  obtain ⟨a0, c0, rfl⟩ : ∃ a c, v = .slice a l.length c := by obtain ⟨a, c, h, _⟩ := hIn; exact ⟨a, c, h⟩
  obtain ⟨m, hm⟩ : ∃ m, m = l.length := ⟨_, rfl⟩
  have hmx : m ≤ maxLen := by obtain ⟨_, _, _, h, _⟩ := hIn; rw [hm]; exact h
  obtain ⟨n, hn⟩ : ∃ n, n = w.heap.size := ⟨_, rfl⟩
  obtain ⟨i0, hi, hz0, hz1, hz2⟩ := info_parts info_pAcc
  have HN : Hid (∀ u, Calls Try.prog 23 #[.int .i64 5] u fun e w' => ∃ p, e = .returned (.tuple #[.pointer (some ⟨p, 0, none⟩), .int .i64 0]) ∧ u.heap.size ≤ p ∧ Acc 76 w' p (AccV.first 5) ∧ Below u.heap.size u w') := fun u => anew_in 5 (by decide) (by decide) u
  have HIN := Lib.hid hIn
  have HM := Lib.hid hm
  have HNN := Lib.hid hn
  have HMX := Lib.hid hmx
  rw [← hm, ← hn]
  clear hIn hm hn hmx
  go_enter Try.func5, Try.ntmps5
  go_wp2_with fail
  go_loopw [3, 4] (fun s3 s4 wr => ∃ (i : Nat) (ps : Nat → Nat), s4 = .int .i64 i ∧ i ≤ 5 ∧ Hid (MadeA n w ps i s3 wr)) (fun _ s4 _ => 5 - (intOf s4).toNat)
  case atStart => exact ⟨0, fun _ => 0, rfl, by omega, Below.refl _ _, by have := HNN.out; omega, World.ownsRow_nil _ _ _ _, fun k hk => by omega, fun k hk => by omega, fun j k hj => by omega⟩
  case round =>
    obtain ⟨i, ps, rfl, hi5, HR⟩ := hrel
    by_cases hlt : i < 5
    · go_wp2_with fail
      refine (HN.out _).mono ?_
      rintro e w1 ⟨p, rfl, hp, hA, hB⟩
      have HP := Lib.hid hp
      have HA := Lib.hid hA
      have HB := Lib.hid hB
      obtain ⟨va, vc, hsh⟩ := own_shape HR.out.row
      subst hsh
      have R1 : Hid (w1.ownsRow n 52 1 (.slice va i vc) i (ptrs ps i)) := rowOn HR.out.row HB.out
      clear hp hA hB
      go_wp2_with (at_builtin; refine wpList_append_own_src rfl (.tmp 35) (.tmp 37) 51 51 rfl n 52 i0 (.pointer none) 1 8 Try.underlying51 hi hz0 hz1 hz2 rfl _ _ _ rfl (R1.out.alloc _) _ 1 [Value.pointer (some ⟨p, 0, none⟩)] rfl (src_one_acc w1 _ _ rfl) ?c3 ?c4 ?c5 ?_)
      case c3 => unfold maxLen; omega
      case c4 => omega
      case c5 => simp; have := HR.out.size; have := HB.out.size; omega
      intro v' w2 hown hgrow
      have hA2 := HA.out.on (w' := w1.alloc (.cells #[.pointer (some ⟨p, 0, none⟩)] 52)) ((Below.refl _ _).alloc (Nat.le_refl _) _)
      have R2 := R1.out.alloc (.cells #[.pointer (some ⟨p, 0, none⟩)] 52)
      have H2 : Hid (MadeA n w (fun k => if k = i then p else ps k) (i + 1) v' w2) := by
        have hb1 : Below w1.heap.size w1 (w1.alloc (.cells #[.pointer (some ⟨p, 0, none⟩)] 52)) := (Below.refl _ _).alloc (Nat.le_refl _) _
        have hbw : Below n w (w1.alloc (.cells #[.pointer (some ⟨p, 0, none⟩)] 52)) := (HR.out.bel.trans (HB.out.mono HR.out.size)).trans (hb1.mono (Nat.le_trans HR.out.size HB.out.size))
        refine ⟨hbw.grown hgrow (by simp; have := HR.out.size; have := HB.out.size; omega) (fun y hy => (R2.lt y hy).1), by have := HR.out.size; have := HB.out.size; have := hgrow.size; have := hb1.size; omega, ?_, fun k hk => ?_, fun k hk => ?_, fun j k hj hk hjk => ?_⟩
        · have e := ptrs_snoc (ps := ps) (ps' := fun k => if k = i then p else ps k) (i := i) (fun k hk => if_neg (by omega))
          rw [if_pos rfl] at e
          rw [← e]
          exact hown
        · by_cases hki : k = i
          · subst hki
            rw [if_pos rfl]
            exact acc_grown hA2 R2 hgrow
          · rw [if_neg hki]
            exact acc_grown (((HR.out.acc k (by omega)).on HB.out).on hb1) R2 hgrow
        · have := HR.out.size
          have := HP.out
          by_cases hki : k = i
          · rw [if_pos hki]; omega
          · rw [if_neg hki]; exact HR.out.low k (by omega)
        · have hpl := HP.out
          by_cases hji : j = i
          · by_cases hki : k = i
            · omega
            · rw [if_pos hji, if_neg hki] at hjk
              have := (HR.out.acc k (by omega)).lt
              omega
          · by_cases hki : k = i
            · rw [if_neg hji, if_pos hki] at hjk
              have := (HR.out.acc j (by omega)).lt
              omega
            · rw [if_neg hji, if_neg hki] at hjk
              exact HR.out.inj j k (by omega) (by omega) hjk
      clear hown hgrow hA2 R2
      go_wp2_with fail
      go_roundw
      case rel => exact ⟨i + 1, _, by go_num, by omega, H2.out⟩
      case measure => simp [intOf]; omega
    · obtain rfl : i = 5 := by omega
      obtain ⟨rb, cap, rfl, hF⟩ := HR.out.five
      obtain ⟨b7, hb7⟩ : ∃ b, b = wr.heap.size := ⟨_, rfl⟩
      obtain ⟨y0, hy0⟩ : ∃ y, y = (wr.alloc (.cells #[.int .i64 0, .slice none 0 0] 26)).alloc (.cells #[.int .i64 0, .int .i64 0] 23) := ⟨_, rfl⟩
      have by0 : Below wr.heap.size wr y0 := by rw [hy0]; exact ((Below.refl _ _).alloc (Nat.le_refl _) _).alloc (by simp) _
      have M0 : Hid (MS n w ps rb cap b7 (b7 + 1) 0 (fun _ => AccV.first 5) 0 0 0 (.slice none 0 0) [] y0) := by
        refine ⟨hF.on by0, ?_, RowI.none _, ?_, HR.out.bel.trans (by0.mono HR.out.size), ?_, fun k _ => good_first, by decide, by decide, .inl rfl⟩
        · rw [hy0, hb7]
          exact (ChT.fresh wr _ _).keep ((Below.refl _ _).alloc (Nat.le_refl _) _) (by simp)
        · rw [hy0, hb7]
          have h := BalB.fresh (wr.alloc (.cells #[.int .i64 0, .slice none 0 0] 26)) 0 0
          rwa [World.size_alloc] at h
        · have := HR.out.size
          omega
      have HY0 := Lib.hid hy0
      have HB7 := Lib.hid hb7
      obtain ⟨wo, hwo⟩ : ∃ wo, wo = wr := ⟨_, rfl⟩
      subst hwo
      clear hb7 hy0 by0 hF HR
      rw [show (((5 : Nat) : Int)) = (5 : Int) from rfl]
      go_wp2_with fail
      rw [← HB7.out, ← HY0.out]

      go_loopw [9] (fun s9 wr => ∃ (i : Nat) (ss : Nat → AccV) (tr tn ce : Int) (cv : Value) (cC : List Int), s9 = .int .i64 i ∧ i ≤ m ∧ i ≤ 20 ∧ Hid (MS n w ps rb cap b7 (b7 + 1) i ss tr tn ce cv cC wr)) (fun s9 _ => m - (intOf s9).toNat)
      case atStart => exact ⟨0, _, _, _, _, _, _, rfl, by omega, by omega, M0.out⟩
      case round =>
        obtain ⟨i, ss, tr, tn, ce, cv, cC, rfl, him, hi20, HR⟩ := hrel
        by_cases hlt : i < m ∧ i < 20
        · obtain ⟨h1, h2⟩ := hlt
          have i1 : (i : Int) < (m : Int) := by omega
          have i2 : (i : Int) < 20 := by omega
          obtain ⟨ab, off, rfl, hab, hcells⟩ := tries_cell HIN.out (i := i) (by have := HM.out; omega)
          obtain ⟨X, hX⟩ : ∃ X, X = l[i]'(by have := HM.out; omega) := ⟨_, rfl⟩
          rw [← hX] at hcells
          obtain ⟨d0, d1, d2, d3⟩ := hcells.keep HR.out.bel (by have := HNN.out; omega)
          obtain ⟨nd, hnd, eqn⟩ := left_of X.node 5 (by decide) (by decide)
          obtain ⟨wn, hwn, eqw⟩ := left_of X.want 5 (by decide) (by decide)
          have EN : Hid (wrap64 ((IntKind.u64.wrap X.node).tmod 5) = (nd : Int)) := eqn
          have EW : Hid (wrap64 ((IntKind.u64.wrap X.want).tmod 5) = (wn : Int)) := eqw
          obtain ⟨u1, u2, u3, u4⟩ := up_lt (k := (nd : Int)) HR.out.may (by omega) (by omega) (by have := HR.out.few; omega)
          obtain ⟨br, hbr⟩ : ∃ br, br = upV tr tn nd := ⟨_, rfl⟩
          rw [← hbr] at u1 u2 u3 u4
          have HNX : Hid (∀ u, Calls Try.prog 24 #[.agg #[.int .i64 tr, .int .i64 tn], .int .i64 (nd : Int)] u fun e w' => e = .returned (.tuple #[.agg #[.int .i64 br, .int .i64 (nd : Int)], .bool true]) ∧ Below u.heap.size u w') := fun u => rvnext_r tr tn nd u u1
          have HMAY := Lib.hid u2
          have HLT := Lib.hid u3
          have HFEW : Hid (br ≤ (i : Int) + 1) := by have := HR.out.few; show _ ≤ _; omega
          obtain ⟨b10, hb10⟩ : ∃ b, b = wr.heap.size := ⟨_, rfl⟩
          obtain ⟨y1, hy1⟩ : ∃ y, y = wr.alloc (.cells #[.int .i64 X.node, .int .i64 X.reach, .int .i64 X.yes, .int .i64 X.want] 56) := ⟨_, rfl⟩
          have by1 : Below wr.heap.size wr y1 := by rw [hy1]; exact (Below.refl _ _).alloc (Nat.le_refl _) _
          have ty1 : TryB y1 b10 X := by rw [hy1, hb10]; exact TryB.fresh wr X
          have hwrs : n ≤ wr.heap.size := by have := HR.out.low; have := HR.out.tp.lt; omega
          have HB10 := Lib.hid hb10
          have HY1 := Lib.hid hy1
          have BY1 := Lib.hid by1
          have TY1 := Lib.hid ty1
          have HWRS := Lib.hid hwrs
          have p1 := HR.out.tp.keep by1 HR.out.tp.lt
          obtain ⟨g0, g1, _, _⟩ := p1.cells
          obtain ⟨x0, x1, x2, x3⟩ := ty1.cells
          rw [hy1] at g0 g1
          rw [hy1, hb10] at x0 x1 x2 x3
          clear hX hcells eqn eqw u1 u2 u3 u4 hbr hb10 hy1 by1 ty1 hwrs p1 hab
          go_wp2_with fail
          rw [EN.out, ← HB10.out, ← HY1.out]
          clear g0 g1 x0 x1 x2 x3 d0 d1 d2 d3
          refine (HNX.out _).mono ?_
          rintro e w1 ⟨rfl, hB1⟩
          have B1 := Lib.hid hB1
          clear hB1
          go_upto_region 18 with fail
          obtain ⟨b11, hb11⟩ : ∃ b, b = w1.heap.size := ⟨_, rfl⟩
          obtain ⟨y2, hy2⟩ : ∃ y, y = w1.alloc (.cells #[.int .i64 br, .int .i64 (nd : Int)] 23) := ⟨_, rfl⟩
          rw [← hb11, ← hy2]
          have by2 : Below w1.heap.size w1 y2 := by rw [hy2]; exact (Below.refl _ _).alloc (Nat.le_refl _) _
          have cy2 : Below wr.heap.size wr y2 := (BY1.out.trans (B1.out.mono BY1.out.size)).trans (by2.mono (Nat.le_trans BY1.out.size B1.out.size))
          have q2 : BalB y2 b11 br nd := by rw [hy2, hb11]; exact BalB.fresh w1 br nd
          have t2 : TryB y2 b10 X := (TY1.out.on B1.out).on by2
          have p2 := HR.out.tp.keep cy2 HR.out.tp.lt
          have h78 : b7 + 1 < b11 := by rw [hb11]; have := HR.out.tp.lt; have := BY1.out.size; have := B1.out.size; omega
          obtain ⟨y3, hy3⟩ : ∃ y, y = (y2.setCell ⟨b7 + 1, 0, none⟩ (.int .i64 br)).setCell ⟨b7 + 1, 1, none⟩ (.int .i64 (nd : Int)) := ⟨_, rfl⟩
          have o3 : Only (· = b7 + 1) y2 y3 := by rw [hy3]; exact (Only.set _ 0 y2 _).trans (Only.set _ 1 _ _)
          have p3 : BalB y3 (b7 + 1) br nd := by
            show _ = _
            rw [hy3, heap_setCell_same _ _ _ _ _ _ (heap_setCell_same _ _ _ _ _ _ p2)]
            rfl
          have q3 : BalB y3 b11 br nd := (o3.block _ q2.lt (by show ¬ _ = _; omega)).trans q2
          have t3 : TryB y3 b10 X := (o3.block _ t2.lt (by
            intro e
            have h2 : y2.heap[b10]? = _ := t2
            rw [show b10 = b7 + 1 from e, show y2.heap[b7 + 1]? = _ from p2] at h2
            simp only [Option.some.injEq, Obj.cells.injEq] at h2
            exact absurd h2.2.1 (by decide))).trans t2
          have f3 : Five n ps rb cap ss y3 := (HR.out.five.on cy2).beside p2 (by decide) (by decide) (by decide) o3
          have r3 : RowI y3 cv cC := (HR.out.row.on cy2).beside p2 (by decide) o3
          have k2 : ChT y2 b7 ce cv := HR.out.ch.keep cy2 HR.out.ch.lt
          have k3 : ChT y3 b7 ce cv := (o3.block _ k2.lt (by show ¬ _ = _; omega)).trans k2
          have l3 : Below n w y3 := o3.below (HR.out.bel.trans (cy2.mono HWRS.out)) (fun x hx => by subst hx; exact HR.out.low.2) (Nat.le_trans HWRS.out cy2.size)
          have s3 : n ≤ y3.heap.size := Nat.le_trans (Nat.le_trans HWRS.out cy2.size) o3.size
          obtain ⟨g0, g1, g2, g3⟩ := p2.cells
          obtain ⟨e0, e1, _, _⟩ := q2.cells
          obtain ⟨x0, x1, x2, x3⟩ := t2.cells
          obtain ⟨z0, z1, z2, z3⟩ := t3.cells
          have HY3 := Lib.hid hy3
          rw [hy3] at z0 z1 z2 z3
          have F3 := Lib.hid f3
          have P3 := Lib.hid p3
          have Q3 := Lib.hid q3
          have T3 := Lib.hid t3
          have R3 := Lib.hid r3
          have K3 := Lib.hid k3
          have L3 := Lib.hid l3
          have S3 := Lib.hid s3
          have H78 := Lib.hid h78
          clear hb11 hy2 by2 cy2 q2 t2 p2 h78 hy3 o3 p3 q3 t3 f3 r3 k2 k3 l3 s3
          go_upto_region 20 with fail
          rw [EW.out, ← HY3.out]
          clear g0 g1 g2 g3 e0 e1 x0 x1 x2 x3 z0 z1 z2 z3
          obtain ⟨rr, hrr⟩ : ∃ r, r = y2.heap.size := ⟨_, rfl⟩
          have hrr3 : rr = y3.heap.size := by rw [HY3.out, hrr]; simp
          obtain ⟨y4, hy4⟩ : ∃ y, y = y3.alloc (.cells #[.int .i64 (wn : Int)] 3) := ⟨_, rfl⟩
          obtain ⟨y5, hy5⟩ : ∃ y, y = y4.alloc (.cells #[.int .i64 2, .slice (some ⟨rr, 0, none⟩) 1 1] 26) := ⟨_, rfl⟩
          have hr4 : rr + 1 = y4.heap.size := by rw [hy4, hrr3]; simp
          rw [← hrr, ← hy4, ← hy5]
          have by4 : Below y3.heap.size y3 y4 := by rw [hy4]; exact (Below.refl _ _).alloc (Nat.le_refl _) _
          have by5 : Below y4.heap.size y4 y5 := by rw [hy5]; exact (Below.refl _ _).alloc (Nat.le_refl _) _
          have b35 : Below y3.heap.size y3 y5 := by4.trans (by5.mono by4.size)
          have rw5 : RowI y5 (.slice (some ⟨rr, 0, none⟩) 1 1) [(wn : Int)] := by
            have h := row_one y3 (wn : Int)
            rw [← hy4, ← hrr3] at h
            exact h.on by5
          have c5 : ChT y5 (rr + 1) 2 (.slice (some ⟨rr, 0, none⟩) 1 1) := by rw [hy5, hr4]; exact ChT.fresh y4 _ _
          have q5 := Q3.out.keep b35 Q3.out.lt
          have HNEW : Hid (Calls Try.prog 9 #[.int .i64 5, .agg #[.int .i64 br, .int .i64 (nd : Int)], .agg #[.int .i64 2, .slice (some ⟨rr, 0, none⟩) 1 1]] y5 fun e w' => ∃ p, e = .returned (.tuple #[.pointer (some ⟨p, 0, none⟩), .int .i64 0]) ∧ Hid (TO n w p (TalV.first 5 br nd 2 [(wn : Int)]) w' ∧ Below y5.heap.size y5 w')) :=
            to_new 5 (by decide) (by decide) br nd HMAY.out 2 _ [(wn : Int)] _ rw5.ints (Nat.le_refl _) (one_chain (by omega) (by omega)) (L3.out.trans (b35.mono S3.out)) (Nat.le_trans S3.out b35.size)
          have B35 := Lib.hid b35
          obtain ⟨e0, e1, _, _⟩ := q5.cells
          obtain ⟨g0, g1, _, _⟩ := c5.cells
          clear hrr hrr3 hy4 hy5 hr4 by4 by5 b35 rw5 c5 q5 HY3
          go_wp2_with fail
          refine HNEW.out.mono ?_
          rintro e w2 ⟨p, rfl, H2⟩
          have R2 : Hid (RFv n w ps rb cap p (Bx b7 (b7 + 1) b10 b11 ce cv cC br nd X) ss (TalV.first 5 br nd 2 [(wn : Int)]) w2) := by
            have hb : Below y3.heap.size y3 w2 := B35.out.trans (H2.out.2.mono B35.out.size)
            exact ⟨F3.out.on hb, H2.out.1, K3.out.keep hb K3.out.lt, R3.out.on hb, P3.out.keep hb P3.out.lt, T3.out.on hb, Q3.out.keep hb Q3.out.lt⟩
          have HGOOD := Lib.hid HR.out.good
          have HCHO := Lib.hid HR.out.cho
          have HLOW := Lib.hid HR.out.low
          clear HNEW H2 B35 e0 e1 g0 g1 F3 P3 Q3 T3 R3 K3 L3 S3 B1 BY1 HY1 TY1 HNX EN EW
          obtain ⟨wo2, hwo2⟩ : ∃ wo2, wo2 = wr := ⟨_, rfl⟩
          subst hwo2
          clear HB10 HR HWRS
          go_wp2_with fail
          go_loopw [16] (fun s16 wr => ∃ (k : Nat) (ss1 : Nat → AccV) (s : TalV), s16 = .int .i64 k ∧ k ≤ 5 ∧ Hid (RFv n w ps rb cap p (Bx b7 (b7 + 1) b10 b11 ce cv cC br nd X) ss1 s wr ∧ Rep (bitB X.reach) (fun a => prp a br nd) ss ss1 k ∧ TI (bitB X.reach) ss br nd wn s k)) (fun s16 _ => 5 - (intOf s16).toNat)
          case atStart => exact ⟨0, _, _, rfl, by omega, R2.out, rep_zero _ _ _, ti_zero _ _ _ _ _⟩
          case round =>
            obtain ⟨k, ss1, s, rfl, hk5, HK⟩ := hrel
            by_cases hlt : k < 5
            · obtain ⟨x0, x1, x2, x3⟩ := HK.out.1.box.x.cells
              cases hf : bitB X.reach k with
              | false =>
                have hbit := bit_no hf
                have HF := Lib.hid hf
                clear hf
                go_wp2_with fail
                go_roundw
                case rel => exact ⟨k + 1, ss1, s, by go_num, by omega, HK.out.1, rep_skip HK.out.2.1 HF.out, ti_skip HK.out.2.2 HF.out⟩
                case measure => simp [intOf]; omega
              | true =>
                have hbit := bit_yes hf
                have HF := Lib.hid hf
                obtain ⟨hP1, hP2⟩ := ti_step HK.out.2.2 hf hlt (HGOOD.out k hlt)
                have hGk : GoodA (ss1 k) tr tn := by rw [rep_at HK.out.2.1 hlt]; exact HGOOD.out k hlt
                have HPR : Hid (∀ u, RFv n w ps rb cap p (Bx b7 (b7 + 1) b10 b11 ce cv cC br nd X) ss1 s u → Calls Try.prog 25 #[.pointer (some ⟨ps k, 0, none⟩), .int .i64 2, .agg #[.int .i64 br, .int .i64 (nd : Int)]] u fun e w' => ∃ a c, e = .returned (.tuple #[.agg #[.int .i64 br, .int .i64 (nd : Int), .int .i64 (ss k).v.ar, .int .i64 (ss k).v.an, .bool (ss k).v.has, .int .i64 (ss k).v.ce, .slice a (ss k).v.C.length c], .int .i64 0]) ∧ Hid ((RowI w' (.slice a (ss k).v.C.length c) (ss k).v.C ∧ KAc u w') ∧ RFv n w ps rb cap p (Bx b7 (b7 + 1) b10 b11 ce cv cC br nd X) (updA ss1 k (prp (ss k) br nd)) s w')) := fun u hu => by
                  have h := rs_prep Bx.kat hu hlt hGk HMAY.out HLT.out
                  rw [rep_at HK.out.2.1 hlt] at h
                  exact h
                have HPM : Hid (∀ u vv, RFv n w ps rb cap p (Bx b7 (b7 + 1) b10 b11 ce cv cC br nd X) (updA ss1 k (prp (ss k) br nd)) s u → RowI u vv (ss k).v.C → Calls Try.prog 14 #[.pointer (some ⟨p, 0, none⟩), .int .i64 k, .agg #[.int .i64 br, .int .i64 (nd : Int), .int .i64 (ss k).v.ar, .int .i64 (ss k).v.an, .bool (ss k).v.has, .int .i64 (ss k).v.ce, vv]] u fun e w' => e = .returned (.bool true) ∧ Hid (RFv n w ps rb cap p (Bx b7 (b7 + 1) b10 b11 ce cv cC br nd X) (updA ss1 k (prp (ss k) br nd)) (proS s k (prp (ss k) br nd).v) w')) := fun u vv hu hv =>
                  rs_pro Bx.kat hu k (prp (ss k) br nd).v vv _ hv.ints (Nat.le_refl _) (good_ce (HGOOD.out k hlt)).1 (good_ce (HGOOD.out k hlt)).2.1 (good_ce (HGOOD.out k hlt)).2.2 hP1
                have HREP := Lib.hid (rep_step HK.out.2.1 hf)
                have HTI := Lib.hid hP2
                have HS : Hid (∀ u ss1 s, RFv n w ps rb cap p (Bx b7 (b7 + 1) b10 b11 ce cv cC br nd X) ss1 s u → (fun u => u.cell? ⟨rb, k, none⟩ = some (.pointer (some ⟨ps k, 0, none⟩)) ∧ u.cell? ⟨b11, 0, none⟩ = some (.int .i64 br) ∧ u.cell? ⟨b11, 1, none⟩ = some (.int .i64 (nd : Int))) u) := fun u ss1 s h => ⟨h.five.cell hlt, h.box.b.cells.1, h.box.b.cells.2.1⟩
                obtain ⟨V, hV⟩ : ∃ V, V = (ss k).v := ⟨_, rfl⟩
                rw [← hV] at HPR HPM
                clear hf hP1 hP2 hGk hV
                go_wp2_with fail
                clear x0 x1 x2 x3 hbit

                go_cut [17, 18] (fun s17 s18 wc => ∃ (q : Nat) (a : Option Addr) (c : Nat), s17 = .pointer (some ⟨q, 0, none⟩) ∧ s18 = .int .i64 0 ∧ Hid (RFv n w ps rb cap p (Bx b7 (b7 + 1) b10 b11 ce cv cC br nd X) (updA ss1 k (prp (ss k) br nd)) s wc ∧ VotB wc q ⟨br, nd, V.ar, V.an, V.has, V.ce, V.C⟩ (.slice a V.C.length c) ∧ RowI wc (.slice a V.C.length c) V.C))
                case first =>
                  refine wp_region_held_drew (S := (fun u => u.cell? ⟨rb, k, none⟩ = some (.pointer (some ⟨ps k, 0, none⟩)) ∧ u.cell? ⟨b11, 0, none⟩ = some (.int .i64 br) ∧ u.cell? ⟨b11, 1, none⟩ = some (.int .i64 (nd : Int)))) (by kernel_rfl) (HS.out _ _ _ (HK.out.1.on Bx.kat (Below.drew (Below.refl _ _)))) (fun hHeld => ?_)
                  first
                    | (refine held_take 0 98 (v := ?_) rfl rfl (by kernel_rfl) (by kernel_rfl) (by kernel_rfl) (fun _ _ _ h => h) (by assumption) (by rfl) ?_ ?_; rotate_left; (focus (intro w hSw; obtain ⟨hS0, hS1, hS2⟩ := hSw; go_simp <;> with_reducible rfl)))
                    | refine held_pass 0 98 rfl rfl (by kernel_rfl) (by kernel_rfl) (by kernel_rfl) (fun _ _ _ h => h) (by assumption) (by rfl) ?_
                  simp only [Act.put, List.setIfInBounds_toArray, List.set_cons_zero, List.set_cons_succ]
                  first
                    | (refine held_take 1 99 (v := ?_) rfl rfl (by kernel_rfl) (by kernel_rfl) (by kernel_rfl) (fun _ _ _ h => h) (by assumption) (by rfl) ?_ ?_; rotate_left; (focus (intro w hSw; obtain ⟨hS0, hS1, hS2⟩ := hSw; go_simp <;> with_reducible rfl)))
                    | refine held_pass 1 99 rfl rfl (by kernel_rfl) (by kernel_rfl) (by kernel_rfl) (fun _ _ _ h => h) (by assumption) (by rfl) ?_
                  simp only [Act.put, List.setIfInBounds_toArray, List.set_cons_zero, List.set_cons_succ]
                  first
                    | (refine held_take 2 100 (v := ?_) rfl rfl (by kernel_rfl) (by kernel_rfl) (by kernel_rfl) (fun _ _ _ h => h) (by assumption) (by rfl) ?_ ?_; rotate_left; (focus (intro w hSw; obtain ⟨hS0, hS1, hS2⟩ := hSw; go_simp <;> with_reducible rfl)))
                    | refine held_pass 2 100 rfl rfl (by kernel_rfl) (by kernel_rfl) (by kernel_rfl) (fun _ _ _ h => h) (by assumption) (by rfl) ?_
                  simp only [Act.put, List.setIfInBounds_toArray, List.set_cons_zero, List.set_cons_succ]
                  first
                    | (refine held_take 3 101 (v := ?_) rfl rfl (by kernel_rfl) (by kernel_rfl) (by kernel_rfl) (fun _ _ _ h => h) (by assumption) (by rfl) ?_ ?_; rotate_left; (focus (intro w hSw; obtain ⟨hS0, hS1, hS2⟩ := hSw; go_simp <;> with_reducible rfl)))
                    | refine held_pass 3 101 rfl rfl (by kernel_rfl) (by kernel_rfl) (by kernel_rfl) (fun _ _ _ h => h) (by assumption) (by rfl) ?_
                  simp only [Act.put, List.setIfInBounds_toArray, List.set_cons_zero, List.set_cons_succ]
                  first
                    | (refine held_take 4 102 (v := ?_) rfl rfl (by kernel_rfl) (by kernel_rfl) (by kernel_rfl) (fun _ _ _ h => h) (by assumption) (by rfl) ?_ ?_; rotate_left; (focus (intro w hSw; obtain ⟨hS0, hS1, hS2⟩ := hSw; go_simp <;> with_reducible rfl)))
                    | refine held_pass 4 102 rfl rfl (by kernel_rfl) (by kernel_rfl) (by kernel_rfl) (fun _ _ _ h => h) (by assumption) (by rfl) ?_
                  simp only [Act.put, List.setIfInBounds_toArray, List.set_cons_zero, List.set_cons_succ]
                  obtain ⟨u0, hu0⟩ : ∃ u, u = wr.drew := ⟨_, rfl⟩
                  rw [← hu0] at hHeld ⊢
                  have U0 : Hid (RFv n w ps rb cap p (Bx b7 (b7 + 1) b10 b11 ce cv cC br nd X) ss1 s u0) := by rw [hu0]; exact HK.out.1.on Bx.kat (Below.drew (Below.refl _ _))
                  clear hu0
                  refine wpAnyH_ready (rs := [5, 9]) (by kernel_rfl) (by simp) (AllReadyH.cons rfl (fun K hK => ?_) (AllReadyH.cons rfl (fun K hK => ?_) AllReadyH.nil))
                  · try simp only [Go.wp_at_succ, Go.wp_at_zero]
                    go_simp
                    refine (HPR.out _ U0.out).mono ?_
                    rintro e u1 ⟨a1, c1, rfl, H1⟩
                    refine hK.out _ _ (HS.out _ _ _ H1.out.2) (fun hHeld => ?_)
                    clear hK K
                    try simp only [Act.put, List.setIfInBounds_toArray, List.set_cons_zero, List.set_cons_succ]
                    first
                      | (refine held_take 6 97 (v := ?_) rfl rfl (by kernel_rfl) (by kernel_rfl) (by kernel_rfl) (fun _ _ _ h => h) (by assumption) (by rfl) ?_ ?_; rotate_left; (focus (intro w hSw; obtain ⟨hS0, hS1, hS2⟩ := hSw; go_simp <;> with_reducible rfl)))
                      | refine held_pass 6 97 rfl rfl (by kernel_rfl) (by kernel_rfl) (by kernel_rfl) (fun _ _ _ h => h) (by assumption) (by rfl) ?_
                    simp only [Act.put, List.setIfInBounds_toArray, List.set_cons_zero, List.set_cons_succ]
                    first
                      | (refine held_take 7 104 (v := ?_) rfl rfl (by kernel_rfl) (by kernel_rfl) (by kernel_rfl) (fun _ _ _ h => h) (by assumption) (by rfl) ?_ ?_; rotate_left; (focus (intro w hSw; obtain ⟨hS0, hS1, hS2⟩ := hSw; go_simp <;> with_reducible rfl)))
                      | refine held_pass 7 104 rfl rfl (by kernel_rfl) (by kernel_rfl) (by kernel_rfl) (fun _ _ _ h => h) (by assumption) (by rfl) ?_
                    simp only [Act.put, List.setIfInBounds_toArray, List.set_cons_zero, List.set_cons_succ]
                    first
                      | (refine held_take 8 105 (v := ?_) rfl rfl (by kernel_rfl) (by kernel_rfl) (by kernel_rfl) (fun _ _ _ h => h) (by assumption) (by rfl) ?_ ?_; rotate_left; (focus (intro w hSw; obtain ⟨hS0, hS1, hS2⟩ := hSw; go_simp <;> with_reducible rfl)))
                      | refine held_pass 8 105 rfl rfl (by kernel_rfl) (by kernel_rfl) (by kernel_rfl) (fun _ _ _ h => h) (by assumption) (by rfl) ?_
                    simp only [Act.put, List.setIfInBounds_toArray, List.set_cons_zero, List.set_cons_succ]
                    refine wpAnyH_ready (rs := [9]) (by kernel_rfl) (by simp) (AllReadyH.cons rfl (fun K hK => ?_) AllReadyH.nil)
                    try simp only [Go.wp_at_succ, Go.wp_at_zero]
                    go_simp
                    have bN : Below u1.heap.size u1 (u1.alloc (.cells #[.int .i64 0, .int .i64 0, .int .i64 0, .int .i64 0, .bool false, .int .i64 0, .slice none 0 0] 40)) := (Below.refl _ _).alloc (Nat.le_refl _) _
                    refine hK.out _ _ (HS.out _ _ _ (H1.out.2.on Bx.kat bN)) (fun hHeld => ?_)
                    clear hK K
                    try simp only [Act.put, List.setIfInBounds_toArray, List.set_cons_zero, List.set_cons_succ]
                    obtain ⟨u2, hN⟩ : ∃ u, u = u1.alloc (.cells #[.int .i64 0, .int .i64 0, .int .i64 0, .int .i64 0, .bool false, .int .i64 0, .slice none 0 0] 40) := ⟨_, rfl⟩
                    rw [← hN] at hHeld bN ⊢
                    obtain ⟨q, hq⟩ : ∃ q, q = u1.heap.size := ⟨_, rfl⟩
                    have RQ := Lib.hid (H1.out.2.on Bx.kat bN)
                    have RWQ := Lib.hid (H1.out.1.1.on bN)
                    have VQ : Hid (VotB u2 q VoteV.zero (.slice none 0 0)) := by rw [hN, hq]; exact VotB.fresh u1 VoteV.zero _
                    have QN : Hid (n ≤ q) := by show _ ≤ _; rw [hq]; exact H1.out.2.t.size
                    rw [← hq]
                    clear hN hq bN
                    have hqn : n ≤ q := QN.out
                    obtain ⟨y0, y1, y2, y3, y4, y5, y6⟩ := VQ.out.cells
                    have f0 := VQ.out.free 0
                    have f1 := VQ.out.free 1
                    have f2 := VQ.out.free 2
                    have f3 := VQ.out.free 3
                    have f4 := VQ.out.free 4
                    have f5 := VQ.out.free 5
                    have f6 := VQ.out.free 6
                    obtain ⟨k1, k2⟩ := VQ.out.stored (v' := ⟨br, nd, V.ar, V.an, V.has, V.ce, V.C⟩) (cv' := .slice a1 V.C.length c1)
                    have RY := Lib.hid (rfv_vote RQ.out VQ.out hqn k2)
                    have RWY := Lib.hid (RWQ.out.beside VQ.out (by decide) k2)
                    have K1 := Lib.hid k1
                    clear k1 k2 hqn
                    refine wpAnyH_ready (rs := [10]) (by kernel_rfl) (by simp) (AllReadyH.cons rfl (fun K hK => ?_) AllReadyH.nil)
                    try simp only [Go.wp_at_succ, Go.wp_at_zero]
                    go_simp
                    refine hK.out _ _ (HS.out _ _ _ RY.out) (fun hHeld => ?_)
                    clear hK K
                    try simp only [Act.put, List.setIfInBounds_toArray, List.set_cons_zero, List.set_cons_succ]
                    first
                      | (refine held_take 11 18 (v := ?_) rfl rfl (by kernel_rfl) (by kernel_rfl) (by kernel_rfl) (fun _ _ _ h => h) (by assumption) (by rfl) ?_ ?_; rotate_left; (focus (intro w hSw; obtain ⟨hS0, hS1, hS2⟩ := hSw; go_simp <;> with_reducible rfl)))
                      | refine held_pass 11 18 rfl rfl (by kernel_rfl) (by kernel_rfl) (by kernel_rfl) (fun _ _ _ h => h) (by assumption) (by rfl) ?_
                    simp only [Act.put, List.setIfInBounds_toArray, List.set_cons_zero, List.set_cons_succ]
                    refine wpAnyH_done (by kernel_rfl) ?_ _
                    go_wp2_with fail
                    go_meet
                    case rel => exact ⟨_, a1, c1, rfl, rfl, RY.out, K1.out, RWY.out⟩
                  · try simp only [Go.wp_at_succ, Go.wp_at_zero]
                    go_simp
                    have bN : Below u0.heap.size u0 (u0.alloc (.cells #[.int .i64 0, .int .i64 0, .int .i64 0, .int .i64 0, .bool false, .int .i64 0, .slice none 0 0] 40)) := (Below.refl _ _).alloc (Nat.le_refl _) _
                    refine hK.out _ _ (HS.out _ _ _ (U0.out.on Bx.kat bN)) (fun hHeld => ?_)
                    clear hK K
                    try simp only [Act.put, List.setIfInBounds_toArray, List.set_cons_zero, List.set_cons_succ]
                    obtain ⟨u1, hN⟩ : ∃ u, u = u0.alloc (.cells #[.int .i64 0, .int .i64 0, .int .i64 0, .int .i64 0, .bool false, .int .i64 0, .slice none 0 0] 40) := ⟨_, rfl⟩
                    rw [← hN] at hHeld bN ⊢
                    obtain ⟨q, hq⟩ : ∃ q, q = u0.heap.size := ⟨_, rfl⟩
                    have RQ1 := Lib.hid (U0.out.on Bx.kat bN)
                    have VQ1 : Hid (VotB u1 q VoteV.zero (.slice none 0 0)) := by rw [hN, hq]; exact VotB.fresh u0 VoteV.zero _
                    have QN : Hid (n ≤ q) := by show _ ≤ _; rw [hq]; exact U0.out.t.size
                    rw [← hq]
                    clear hN hq bN
                    refine wpAnyH_ready (rs := [5]) (by kernel_rfl) (by simp) (AllReadyH.cons rfl (fun K hK => ?_) AllReadyH.nil)
                    try simp only [Go.wp_at_succ, Go.wp_at_zero]
                    go_simp
                    refine (HPR.out _ RQ1.out).mono ?_
                    rintro e u2 ⟨a1, c1, rfl, H1⟩
                    have RQ := Lib.hid H1.out.2
                    have RWQ := Lib.hid H1.out.1.1
                    have VQ := Lib.hid (H1.out.1.2.vot VQ1.out)
                    refine hK.out _ _ (HS.out _ _ _ H1.out.2) (fun hHeld => ?_)
                    clear hK K
                    try simp only [Act.put, List.setIfInBounds_toArray, List.set_cons_zero, List.set_cons_succ]
                    first
                      | (refine held_take 6 97 (v := ?_) rfl rfl (by kernel_rfl) (by kernel_rfl) (by kernel_rfl) (fun _ _ _ h => h) (by assumption) (by rfl) ?_ ?_; rotate_left; (focus (intro w hSw; obtain ⟨hS0, hS1, hS2⟩ := hSw; go_simp <;> with_reducible rfl)))
                      | refine held_pass 6 97 rfl rfl (by kernel_rfl) (by kernel_rfl) (by kernel_rfl) (fun _ _ _ h => h) (by assumption) (by rfl) ?_
                    simp only [Act.put, List.setIfInBounds_toArray, List.set_cons_zero, List.set_cons_succ]
                    first
                      | (refine held_take 7 104 (v := ?_) rfl rfl (by kernel_rfl) (by kernel_rfl) (by kernel_rfl) (fun _ _ _ h => h) (by assumption) (by rfl) ?_ ?_; rotate_left; (focus (intro w hSw; obtain ⟨hS0, hS1, hS2⟩ := hSw; go_simp <;> with_reducible rfl)))
                      | refine held_pass 7 104 rfl rfl (by kernel_rfl) (by kernel_rfl) (by kernel_rfl) (fun _ _ _ h => h) (by assumption) (by rfl) ?_
                    simp only [Act.put, List.setIfInBounds_toArray, List.set_cons_zero, List.set_cons_succ]
                    first
                      | (refine held_take 8 105 (v := ?_) rfl rfl (by kernel_rfl) (by kernel_rfl) (by kernel_rfl) (fun _ _ _ h => h) (by assumption) (by rfl) ?_ ?_; rotate_left; (focus (intro w hSw; obtain ⟨hS0, hS1, hS2⟩ := hSw; go_simp <;> with_reducible rfl)))
                      | refine held_pass 8 105 rfl rfl (by kernel_rfl) (by kernel_rfl) (by kernel_rfl) (fun _ _ _ h => h) (by assumption) (by rfl) ?_
                    simp only [Act.put, List.setIfInBounds_toArray, List.set_cons_zero, List.set_cons_succ]
                    have hqn : n ≤ q := QN.out
                    obtain ⟨y0, y1, y2, y3, y4, y5, y6⟩ := VQ.out.cells
                    have f0 := VQ.out.free 0
                    have f1 := VQ.out.free 1
                    have f2 := VQ.out.free 2
                    have f3 := VQ.out.free 3
                    have f4 := VQ.out.free 4
                    have f5 := VQ.out.free 5
                    have f6 := VQ.out.free 6
                    obtain ⟨k1, k2⟩ := VQ.out.stored (v' := ⟨br, nd, V.ar, V.an, V.has, V.ce, V.C⟩) (cv' := .slice a1 V.C.length c1)
                    have RY := Lib.hid (rfv_vote RQ.out VQ.out hqn k2)
                    have RWY := Lib.hid (RWQ.out.beside VQ.out (by decide) k2)
                    have K1 := Lib.hid k1
                    clear k1 k2 hqn
                    refine wpAnyH_ready (rs := [10]) (by kernel_rfl) (by simp) (AllReadyH.cons rfl (fun K hK => ?_) AllReadyH.nil)
                    try simp only [Go.wp_at_succ, Go.wp_at_zero]
                    go_simp
                    refine hK.out _ _ (HS.out _ _ _ RY.out) (fun hHeld => ?_)
                    clear hK K
                    try simp only [Act.put, List.setIfInBounds_toArray, List.set_cons_zero, List.set_cons_succ]
                    first
                      | (refine held_take 11 18 (v := ?_) rfl rfl (by kernel_rfl) (by kernel_rfl) (by kernel_rfl) (fun _ _ _ h => h) (by assumption) (by rfl) ?_ ?_; rotate_left; (focus (intro w hSw; obtain ⟨hS0, hS1, hS2⟩ := hSw; go_simp <;> with_reducible rfl)))
                      | refine held_pass 11 18 rfl rfl (by kernel_rfl) (by kernel_rfl) (by kernel_rfl) (fun _ _ _ h => h) (by assumption) (by rfl) ?_
                    simp only [Act.put, List.setIfInBounds_toArray, List.set_cons_zero, List.set_cons_succ]
                    refine wpAnyH_done (by kernel_rfl) ?_ _
                    go_wp2_with fail
                    go_meet
                    case rel => exact ⟨_, a1, c1, rfl, rfl, RY.out, K1.out, RWY.out⟩
                case rest =>
                  obtain ⟨q, a5, c5, rfl, rfl, HX5⟩ := hcut
                  have HR5 := Lib.hid HX5.out.1
                  have HV5 := Lib.hid HX5.out.2.1
                  have HRW5 := Lib.hid HX5.out.2.2
                  clear HS HPR
                  obtain ⟨v0, v1, v2, v3, v4, v5, v6⟩ := HV5.out.cells
                  go_wp2_with fail
                  refine (HPM.out _ _ HR5.out HRW5.out).mono ?_
                  rintro e w6 ⟨rfl, H6⟩
                  go_wp2_with fail
                  go_roundw
                  case rel => exact ⟨k + 1, _, _, by go_num, by omega, H6.out, HREP.out, HTI.out⟩
                  case measure => simp [intOf]; omega
            · obtain rfl : k = 5 := by omega
              have HR1 := Lib.hid HK.out.1
              have REP1 := Lib.hid HK.out.2.1
              have TI5 := Lib.hid HK.out.2.2
              have HG1 : Hid (Good ss1 br nd) := rep_good REP1.out (fun k hk => (good_prep (HGOOD.out k hk) HMAY.out HLT.out).2.2.2) (fun k hk => (HGOOD.out k hk).up (ltB_le HLT.out))
              have HRD : Hid (∀ R, rdyB s = R → Calls Try.prog 18 #[.pointer (some ⟨p, 0, none⟩)] wr fun e w' => e = .returned (.bool R) ∧ Hid (RFv n w ps rb cap p (Bx b7 (b7 + 1) b10 b11 ce cv cC br nd X) ss1 s w')) := fun R hR =>
                (to_rdy HR1.out.t hR).mono fun _ _ ⟨he, hh⟩ => ⟨he, HR1.out.on Bx.kat hh.out.2⟩
              clear HK
              by_cases h3 : 3 ≤ s.P.length
              · have HRT := Lib.hid (HRD.out true (by rw [ti_rdy TI5.out]; exact decide_eq_true h3))
                have H3 := Lib.hid h3
                obtain ⟨y, y0, y5, hC⟩ := ti_one TI5.out (Nat.le_refl _) HGOOD.out (by omega) (by omega)
                have HCH : Hid (∀ u, RFv n w ps rb cap p (Bx b7 (b7 + 1) b10 b11 ce cv cC br nd X) ss1 s u → Calls Try.prog 21 #[.pointer (some ⟨p, 0, none⟩)] u fun e w' => ∃ a c, e = .returned (.agg #[.int .i64 2, .slice a 1 c]) ∧ Hid (RowI w' (.slice a 1 c) [y] ∧ RFv n w ps rb cap p (Bx b7 (b7 + 1) b10 b11 ce cv cC br nd X) ss1 s w')) := fun u hu => by
                  have h := to_chain hu.t
                  rw [hC, TI5.out.ce] at h
                  exact h.mono fun _ _ ⟨a, c, he, hh⟩ => ⟨a, c, he, hh.out.1, hu.on Bx.kat hh.out.2.2⟩
                have HC := Lib.hid hC
                have Y0 := Lib.hid y0
                have Y5 := Lib.hid y5
                clear HRD h3 hC y0 y5
                go_wp2_with fail
                refine HRT.out.mono ?_
                rintro e w3 ⟨rfl, H3'⟩
                go_wp2_with fail
                refine (HCH.out _ H3'.out).mono ?_
                rintro e w4 ⟨ya, yc, rfl, H4⟩
                obtain ⟨b19, hb19⟩ : ∃ b, b = w4.heap.size := ⟨_, rfl⟩
                obtain ⟨y6, hy6⟩ : ∃ y, y = w4.alloc (.cells #[.int .i64 2, .slice ya 1 yc] 26) := ⟨_, rfl⟩
                have by6 : Below w4.heap.size w4 y6 := by rw [hy6]; exact (Below.refl _ _).alloc (Nat.le_refl _) _
                have R6 : Hid (RFv n w ps rb cap p (By b7 (b7 + 1) b10 b11 b19 ce cv cC br nd X (.slice ya 1 yc) y) ss1 s y6) :=
                  ⟨H4.out.2.five.on by6, H4.out.2.t.on by6, Bx.kat _ _ (.of by6) H4.out.2.box, by rw [hy6, hb19]; exact ChT.fresh w4 _ _, H4.out.1.on by6⟩
                have HY6 := Lib.hid hy6
                have HB19 := Lib.hid hb19
                obtain ⟨wo3, hwo3⟩ : ∃ wo3, wo3 = wr := ⟨_, rfl⟩
                subst hwo3
                clear HRT HCH H3' H4 by6 hy6 hb19 HR1 R2
                go_wp2_with fail
                rw [← HB19.out, ← HY6.out]
                go_loopw [20] (fun s20 wr => ∃ (k : Nat) (ss2 : Nat → AccV) (s2 : TalV), s20 = .int .i64 k ∧ k ≤ 5 ∧ Hid (RFv n w ps rb cap p (By b7 (b7 + 1) b10 b11 b19 ce cv cC br nd X (.slice ya 1 yc) y) ss2 s2 wr ∧ Rep (bitB X.yes) (fun a => acp a br nd y) ss1 ss2 k ∧ YI (bitB X.yes) s2 k)) (fun s20 _ => 5 - (intOf s20).toNat)
                case atStart => exact ⟨0, _, _, rfl, by omega, R6.out, rep_zero _ _ _, yi_zero TI5.out (by rw [ti_rdy TI5.out]; exact decide_eq_true H3.out)⟩
                case round =>
                  obtain ⟨k, ss2, s2, rfl, hk5, HK⟩ := hrel
                  by_cases hlt : k < 5
                  · have hwk : IntKind.u64.wrap (k : Int) = (k : Int) := by rw [IntKind.wrap_u64]; omega
                    have HS : Hid (∀ u ss2 s2, RFv n w ps rb cap p (By b7 (b7 + 1) b10 b11 b19 ce cv cC br nd X (.slice ya 1 yc) y) ss2 s2 u → (fun u => u.cell? ⟨rb, k, none⟩ = some (.pointer (some ⟨ps k, 0, none⟩)) ∧ u.cell? ⟨b10, 2, none⟩ = some (.int .i64 X.yes) ∧ (u.cell? ⟨b19, 0, none⟩ = some (.int .i64 2) ∧ u.cell? ⟨b19, 1, none⟩ = some (.slice ya 1 yc)) ∧ u.cell? ⟨b11, 0, none⟩ = some (.int .i64 br) ∧ u.cell? ⟨b11, 1, none⟩ = some (.int .i64 (nd : Int))) u) := fun u ss2 s2 h => ⟨h.five.cell hlt, h.box.x.x.cells.2.2.1, ⟨h.box.c.cells.1, h.box.c.cells.2.1⟩, h.box.x.b.cells.1, h.box.x.b.cells.2.1⟩
                    cases hf : bitB X.yes k with
                    | false =>
                      have hbit := bit_no hf
                      have HF := Lib.hid hf
                      clear hf
                      go_wp2_with fail
                      refine wp_region_held_drew (S := (fun u => u.cell? ⟨rb, k, none⟩ = some (.pointer (some ⟨ps k, 0, none⟩)) ∧ u.cell? ⟨b10, 2, none⟩ = some (.int .i64 X.yes) ∧ (u.cell? ⟨b19, 0, none⟩ = some (.int .i64 2) ∧ u.cell? ⟨b19, 1, none⟩ = some (.slice ya 1 yc)) ∧ u.cell? ⟨b11, 0, none⟩ = some (.int .i64 br) ∧ u.cell? ⟨b11, 1, none⟩ = some (.int .i64 (nd : Int)))) (by kernel_rfl) (HS.out _ _ _ (HK.out.1.on By.kat (Below.drew (Below.refl _ _)))) (fun hHeld => ?_)
                      first
                        | (refine held_take 0 121 (v := ?_) rfl rfl (by kernel_rfl) (by kernel_rfl) (by kernel_rfl) (fun _ _ _ h => h) (by assumption) (by rfl) ?_ ?_; rotate_left; (focus (intro w hSw; obtain ⟨hS0, hS1, ⟨hS2, hS3⟩, hS4, hS5⟩ := hSw; go_simp <;> with_reducible rfl)))
                        | refine held_pass 0 121 rfl rfl (by kernel_rfl) (by kernel_rfl) (by kernel_rfl) (fun _ _ _ h => h) (by assumption) (by rfl) ?_
                      simp only [Act.put, List.setIfInBounds_toArray, List.set_cons_zero, List.set_cons_succ]
                      first
                        | (refine held_take 1 122 (v := ?_) rfl rfl (by kernel_rfl) (by kernel_rfl) (by kernel_rfl) (fun _ _ _ h => h) (by assumption) (by rfl) ?_ ?_; rotate_left; (focus (intro w hSw; obtain ⟨hS0, hS1, ⟨hS2, hS3⟩, hS4, hS5⟩ := hSw; go_simp <;> with_reducible rfl)))
                        | refine held_pass 1 122 rfl rfl (by kernel_rfl) (by kernel_rfl) (by kernel_rfl) (fun _ _ _ h => h) (by assumption) (by rfl) ?_
                      simp only [Act.put, List.setIfInBounds_toArray, List.set_cons_zero, List.set_cons_succ]
                      first
                        | (refine held_take 2 123 (v := ?_) rfl rfl (by kernel_rfl) (by kernel_rfl) (by kernel_rfl) (fun _ _ _ h => h) (by assumption) (by rfl) ?_ ?_; rotate_left; (focus (intro w hSw; obtain ⟨hS0, hS1, ⟨hS2, hS3⟩, hS4, hS5⟩ := hSw; go_simp <;> with_reducible rfl)))
                        | refine held_pass 2 123 rfl rfl (by kernel_rfl) (by kernel_rfl) (by kernel_rfl) (fun _ _ _ h => h) (by assumption) (by rfl) ?_
                      simp only [Act.put, List.setIfInBounds_toArray, List.set_cons_zero, List.set_cons_succ]
                      first
                        | (refine held_take 3 124 (v := ?_) rfl rfl (by kernel_rfl) (by kernel_rfl) (by kernel_rfl) (fun _ _ _ h => h) (by assumption) (by rfl) ?_ ?_; rotate_left; (focus (intro w hSw; obtain ⟨hS0, hS1, ⟨hS2, hS3⟩, hS4, hS5⟩ := hSw; go_simp <;> with_reducible rfl)))
                        | refine held_pass 3 124 rfl rfl (by kernel_rfl) (by kernel_rfl) (by kernel_rfl) (fun _ _ _ h => h) (by assumption) (by rfl) ?_
                      simp only [Act.put, List.setIfInBounds_toArray, List.set_cons_zero, List.set_cons_succ]
                      first
                        | (refine held_take 4 125 (v := ?_) rfl rfl (by kernel_rfl) (by kernel_rfl) (by kernel_rfl) (fun _ _ _ h => h) (by assumption) (by rfl) ?_ ?_; rotate_left; (focus (intro w hSw; obtain ⟨hS0, hS1, ⟨hS2, hS3⟩, hS4, hS5⟩ := hSw; go_simp <;> with_reducible rfl)))
                        | refine held_pass 4 125 rfl rfl (by kernel_rfl) (by kernel_rfl) (by kernel_rfl) (fun _ _ _ h => h) (by assumption) (by rfl) ?_
                      simp only [Act.put, List.setIfInBounds_toArray, List.set_cons_zero, List.set_cons_succ]
                      first
                        | (refine held_take 5 126 (v := ?_) rfl rfl (by kernel_rfl) (by kernel_rfl) (by kernel_rfl) (fun _ _ _ h => h) (by assumption) (by rfl) ?_ ?_; rotate_left; (focus (intro w hSw; obtain ⟨hS0, hS1, ⟨hS2, hS3⟩, hS4, hS5⟩ := hSw; go_simp <;> with_reducible rfl)))
                        | refine held_pass 5 126 rfl rfl (by kernel_rfl) (by kernel_rfl) (by kernel_rfl) (fun _ _ _ h => h) (by assumption) (by rfl) ?_
                      simp only [Act.put, List.setIfInBounds_toArray, List.set_cons_zero, List.set_cons_succ]
                      first
                        | (refine held_take 6 127 (v := ?_) rfl rfl (by kernel_rfl) (by kernel_rfl) (by kernel_rfl) (fun _ _ _ h => h) (by assumption) (by rfl) ?_ ?_; rotate_left; (focus (intro w hSw; obtain ⟨hS0, hS1, ⟨hS2, hS3⟩, hS4, hS5⟩ := hSw; go_simp <;> with_reducible rfl)))
                        | refine held_pass 6 127 rfl rfl (by kernel_rfl) (by kernel_rfl) (by kernel_rfl) (fun _ _ _ h => h) (by assumption) (by rfl) ?_
                      simp only [Act.put, List.setIfInBounds_toArray, List.set_cons_zero, List.set_cons_succ]
                      first
                        | (refine held_take 7 128 (v := ?_) rfl rfl (by kernel_rfl) (by kernel_rfl) (by kernel_rfl) (fun _ _ _ h => h) (by assumption) (by rfl) ?_ ?_; rotate_left; (focus (intro w hSw; obtain ⟨hS0, hS1, ⟨hS2, hS3⟩, hS4, hS5⟩ := hSw; go_simp <;> with_reducible rfl)))
                        | refine held_pass 7 128 rfl rfl (by kernel_rfl) (by kernel_rfl) (by kernel_rfl) (fun _ _ _ h => h) (by assumption) (by rfl) ?_
                      simp only [Act.put, List.setIfInBounds_toArray, List.set_cons_zero, List.set_cons_succ]
                      first
                        | (refine held_take 8 129 (v := ?_) rfl rfl (by kernel_rfl) (by kernel_rfl) (by kernel_rfl) (fun _ _ _ h => h) (by assumption) (by rfl) ?_ ?_; rotate_left; (focus (intro w hSw; obtain ⟨hS0, hS1, ⟨hS2, hS3⟩, hS4, hS5⟩ := hSw; go_simp <;> with_reducible rfl)))
                        | refine held_pass 8 129 rfl rfl (by kernel_rfl) (by kernel_rfl) (by kernel_rfl) (fun _ _ _ h => h) (by assumption) (by rfl) ?_
                      simp only [Act.put, List.setIfInBounds_toArray, List.set_cons_zero, List.set_cons_succ]
                      first
                        | (refine held_take 9 130 (v := ?_) rfl rfl (by kernel_rfl) (by kernel_rfl) (by kernel_rfl) (fun _ _ _ h => h) (by assumption) (by rfl) ?_ ?_; rotate_left; (focus (intro w hSw; obtain ⟨hS0, hS1, ⟨hS2, hS3⟩, hS4, hS5⟩ := hSw; go_simp <;> with_reducible rfl)))
                        | refine held_pass 9 130 rfl rfl (by kernel_rfl) (by kernel_rfl) (by kernel_rfl) (fun _ _ _ h => h) (by assumption) (by rfl) ?_
                      simp only [Act.put, List.setIfInBounds_toArray, List.set_cons_zero, List.set_cons_succ]
                      first
                        | (refine held_take 10 131 (v := ?_) rfl rfl (by kernel_rfl) (by kernel_rfl) (by kernel_rfl) (fun _ _ _ h => h) (by assumption) (by rfl) ?_ ?_; rotate_left; (focus (intro w hSw; obtain ⟨hS0, hS1, ⟨hS2, hS3⟩, hS4, hS5⟩ := hSw; go_simp <;> with_reducible rfl)))
                        | refine held_pass 10 131 rfl rfl (by kernel_rfl) (by kernel_rfl) (by kernel_rfl) (fun _ _ _ h => h) (by assumption) (by rfl) ?_
                      simp only [Act.put, List.setIfInBounds_toArray, List.set_cons_zero, List.set_cons_succ]
                      first
                        | (refine held_take 11 132 (v := ?_) rfl rfl (by kernel_rfl) (by kernel_rfl) (by kernel_rfl) (fun _ _ _ h => h) (by assumption) (by rfl) ?_ ?_; rotate_left; (focus (intro w hSw; obtain ⟨hS0, hS1, ⟨hS2, hS3⟩, hS4, hS5⟩ := hSw; go_simp <;> with_reducible rfl)))
                        | refine held_pass 11 132 rfl rfl (by kernel_rfl) (by kernel_rfl) (by kernel_rfl) (fun _ _ _ h => h) (by assumption) (by rfl) ?_
                      simp only [Act.put, List.setIfInBounds_toArray, List.set_cons_zero, List.set_cons_succ]
                      first
                        | (refine held_take 12 133 (v := ?_) rfl rfl (by kernel_rfl) (by kernel_rfl) (by kernel_rfl) (fun _ _ _ h => h) (by assumption) (by rfl) ?_ ?_; rotate_left; (focus (intro w hSw; obtain ⟨hS0, hS1, ⟨hS2, hS3⟩, hS4, hS5⟩ := hSw; go_simp <;> with_reducible rfl)))
                        | refine held_pass 12 133 rfl rfl (by kernel_rfl) (by kernel_rfl) (by kernel_rfl) (fun _ _ _ h => h) (by assumption) (by rfl) ?_
                      simp only [Act.put, List.setIfInBounds_toArray, List.set_cons_zero, List.set_cons_succ]
                      first
                        | (refine held_take 13 134 (v := ?_) rfl rfl (by kernel_rfl) (by kernel_rfl) (by kernel_rfl) (fun _ _ _ h => h) (by assumption) (by rfl) ?_ ?_; rotate_left; (focus (intro w hSw; obtain ⟨hS0, hS1, ⟨hS2, hS3⟩, hS4, hS5⟩ := hSw; go_simp <;> with_reducible rfl)))
                        | refine held_pass 13 134 rfl rfl (by kernel_rfl) (by kernel_rfl) (by kernel_rfl) (fun _ _ _ h => h) (by assumption) (by rfl) ?_
                      simp only [Act.put, List.setIfInBounds_toArray, List.set_cons_zero, List.set_cons_succ]
                      first
                        | (refine held_take 14 135 (v := ?_) rfl rfl (by kernel_rfl) (by kernel_rfl) (by kernel_rfl) (fun _ _ _ h => h) (by assumption) (by rfl) ?_ ?_; rotate_left; (focus (intro w hSw; obtain ⟨hS0, hS1, ⟨hS2, hS3⟩, hS4, hS5⟩ := hSw; go_simp <;> with_reducible rfl)))
                        | refine held_pass 14 135 rfl rfl (by kernel_rfl) (by kernel_rfl) (by kernel_rfl) (fun _ _ _ h => h) (by assumption) (by rfl) ?_
                      simp only [Act.put, List.setIfInBounds_toArray, List.set_cons_zero, List.set_cons_succ]
                      first
                        | (refine held_take 15 136 (v := ?_) rfl rfl (by kernel_rfl) (by kernel_rfl) (by kernel_rfl) (fun _ _ _ h => h) (by assumption) (by rfl) ?_ ?_; rotate_left; (focus (intro w hSw; obtain ⟨hS0, hS1, ⟨hS2, hS3⟩, hS4, hS5⟩ := hSw; go_simp <;> with_reducible rfl)))
                        | refine held_pass 15 136 rfl rfl (by kernel_rfl) (by kernel_rfl) (by kernel_rfl) (fun _ _ _ h => h) (by assumption) (by rfl) ?_
                      simp only [Act.put, List.setIfInBounds_toArray, List.set_cons_zero, List.set_cons_succ]
                      first
                        | (refine held_take 16 137 (v := ?_) rfl rfl (by kernel_rfl) (by kernel_rfl) (by kernel_rfl) (fun _ _ _ h => h) (by assumption) (by rfl) ?_ ?_; rotate_left; (focus (intro w hSw; obtain ⟨hS0, hS1, ⟨hS2, hS3⟩, hS4, hS5⟩ := hSw; go_simp <;> with_reducible rfl)))
                        | refine held_pass 16 137 rfl rfl (by kernel_rfl) (by kernel_rfl) (by kernel_rfl) (fun _ _ _ h => h) (by assumption) (by rfl) ?_
                      simp only [Act.put, List.setIfInBounds_toArray, List.set_cons_zero, List.set_cons_succ]
                      refine wpAnyH_done (by kernel_rfl) ?_ _
                      clear hHeld
                      go_wp2_with fail
                      go_roundw
                      case rel => exact ⟨k + 1, ss2, s2, by go_num, by omega, HK.out.1.on By.kat (Below.drew (Below.refl _ _)), rep_skip HK.out.2.1 HF.out, yi_skip HK.out.2.2 HF.out⟩
                      case measure => simp [intOf]; omega
                    | true =>
                      have hbit := bit_yes hf
                      obtain ⟨hY1, hY2⟩ := yi_step HK.out.2.2 hf hlt
                      have hGk : GoodA (ss2 k) br nd := by rw [rep_at HK.out.2.1 hlt]; exact HG1.out k hlt
                      have HAC : Hid (∀ u, RFv n w ps rb cap p (By b7 (b7 + 1) b10 b11 b19 ce cv cC br nd X (.slice ya 1 yc) y) ss2 s2 u → Calls Try.prog 26 #[.pointer (some ⟨ps k, 0, none⟩), .agg #[.int .i64 2, .slice ya 1 yc], .agg #[.int .i64 br, .int .i64 (nd : Int)], .bool false] u fun e w' => e = .returned (.int .i64 0) ∧ Hid (RFv n w ps rb cap p (By b7 (b7 + 1) b10 b11 b19 ce cv cC br nd X (.slice ya 1 yc) y) (updA ss2 k (acp (ss1 k) br nd y)) s2 w')) := fun u hu => by
                        have h := rs_acc By.kat hu hlt hGk HMAY.out Y0.out Y5.out (.slice ya 1 yc) hu.box.r
                        rw [rep_at HK.out.2.1 hlt] at h
                        exact h
                      have HYS : Hid (∀ u, RFv n w ps rb cap p (By b7 (b7 + 1) b10 b11 b19 ce cv cC br nd X (.slice ya 1 yc) y) (updA ss2 k (acp (ss1 k) br nd y)) s2 u → Calls Try.prog 16 #[.pointer (some ⟨p, 0, none⟩), .int .i64 k] u fun e w' => e = .returned (.bool true) ∧ Hid (RFv n w ps rb cap p (By b7 (b7 + 1) b10 b11 b19 ce cv cC br nd X (.slice ya 1 yc) y) (updA ss2 k (acp (ss1 k) br nd y)) (yesS s2 k) w')) := fun u hu => rs_yes By.kat hu k hY1
                      have HREP := Lib.hid (rep_step HK.out.2.1 hf)
                      have HYI := Lib.hid hY2
                      clear hf hY1 hY2 hGk
                      go_wp2_with fail
                      refine wp_region_held_drew (S := (fun u => u.cell? ⟨rb, k, none⟩ = some (.pointer (some ⟨ps k, 0, none⟩)) ∧ u.cell? ⟨b10, 2, none⟩ = some (.int .i64 X.yes) ∧ (u.cell? ⟨b19, 0, none⟩ = some (.int .i64 2) ∧ u.cell? ⟨b19, 1, none⟩ = some (.slice ya 1 yc)) ∧ u.cell? ⟨b11, 0, none⟩ = some (.int .i64 br) ∧ u.cell? ⟨b11, 1, none⟩ = some (.int .i64 (nd : Int)))) (by kernel_rfl) (HS.out _ _ _ (HK.out.1.on By.kat (Below.drew (Below.refl _ _)))) (fun hHeld => ?_)
                      first
                        | (refine held_take 0 121 (v := ?_) rfl rfl (by kernel_rfl) (by kernel_rfl) (by kernel_rfl) (fun _ _ _ h => h) (by assumption) (by rfl) ?_ ?_; rotate_left; (focus (intro w hSw; obtain ⟨hS0, hS1, ⟨hS2, hS3⟩, hS4, hS5⟩ := hSw; go_simp <;> with_reducible rfl)))
                        | refine held_pass 0 121 rfl rfl (by kernel_rfl) (by kernel_rfl) (by kernel_rfl) (fun _ _ _ h => h) (by assumption) (by rfl) ?_
                      simp only [Act.put, List.setIfInBounds_toArray, List.set_cons_zero, List.set_cons_succ]
                      first
                        | (refine held_take 1 122 (v := ?_) rfl rfl (by kernel_rfl) (by kernel_rfl) (by kernel_rfl) (fun _ _ _ h => h) (by assumption) (by rfl) ?_ ?_; rotate_left; (focus (intro w hSw; obtain ⟨hS0, hS1, ⟨hS2, hS3⟩, hS4, hS5⟩ := hSw; go_simp <;> with_reducible rfl)))
                        | refine held_pass 1 122 rfl rfl (by kernel_rfl) (by kernel_rfl) (by kernel_rfl) (fun _ _ _ h => h) (by assumption) (by rfl) ?_
                      simp only [Act.put, List.setIfInBounds_toArray, List.set_cons_zero, List.set_cons_succ]
                      first
                        | (refine held_take 2 123 (v := ?_) rfl rfl (by kernel_rfl) (by kernel_rfl) (by kernel_rfl) (fun _ _ _ h => h) (by assumption) (by rfl) ?_ ?_; rotate_left; (focus (intro w hSw; obtain ⟨hS0, hS1, ⟨hS2, hS3⟩, hS4, hS5⟩ := hSw; go_simp <;> with_reducible rfl)))
                        | refine held_pass 2 123 rfl rfl (by kernel_rfl) (by kernel_rfl) (by kernel_rfl) (fun _ _ _ h => h) (by assumption) (by rfl) ?_
                      simp only [Act.put, List.setIfInBounds_toArray, List.set_cons_zero, List.set_cons_succ]
                      first
                        | (refine held_take 3 124 (v := ?_) rfl rfl (by kernel_rfl) (by kernel_rfl) (by kernel_rfl) (fun _ _ _ h => h) (by assumption) (by rfl) ?_ ?_; rotate_left; (focus (intro w hSw; obtain ⟨hS0, hS1, ⟨hS2, hS3⟩, hS4, hS5⟩ := hSw; go_simp <;> with_reducible rfl)))
                        | refine held_pass 3 124 rfl rfl (by kernel_rfl) (by kernel_rfl) (by kernel_rfl) (fun _ _ _ h => h) (by assumption) (by rfl) ?_
                      simp only [Act.put, List.setIfInBounds_toArray, List.set_cons_zero, List.set_cons_succ]
                      first
                        | (refine held_take 4 125 (v := ?_) rfl rfl (by kernel_rfl) (by kernel_rfl) (by kernel_rfl) (fun _ _ _ h => h) (by assumption) (by rfl) ?_ ?_; rotate_left; (focus (intro w hSw; obtain ⟨hS0, hS1, ⟨hS2, hS3⟩, hS4, hS5⟩ := hSw; go_simp <;> with_reducible rfl)))
                        | refine held_pass 4 125 rfl rfl (by kernel_rfl) (by kernel_rfl) (by kernel_rfl) (fun _ _ _ h => h) (by assumption) (by rfl) ?_
                      simp only [Act.put, List.setIfInBounds_toArray, List.set_cons_zero, List.set_cons_succ]
                      first
                        | (refine held_take 5 126 (v := ?_) rfl rfl (by kernel_rfl) (by kernel_rfl) (by kernel_rfl) (fun _ _ _ h => h) (by assumption) (by rfl) ?_ ?_; rotate_left; (focus (intro w hSw; obtain ⟨hS0, hS1, ⟨hS2, hS3⟩, hS4, hS5⟩ := hSw; go_simp <;> with_reducible rfl)))
                        | refine held_pass 5 126 rfl rfl (by kernel_rfl) (by kernel_rfl) (by kernel_rfl) (fun _ _ _ h => h) (by assumption) (by rfl) ?_
                      simp only [Act.put, List.setIfInBounds_toArray, List.set_cons_zero, List.set_cons_succ]
                      first
                        | (refine held_take 6 127 (v := ?_) rfl rfl (by kernel_rfl) (by kernel_rfl) (by kernel_rfl) (fun _ _ _ h => h) (by assumption) (by rfl) ?_ ?_; rotate_left; (focus (intro w hSw; obtain ⟨hS0, hS1, ⟨hS2, hS3⟩, hS4, hS5⟩ := hSw; go_simp <;> with_reducible rfl)))
                        | refine held_pass 6 127 rfl rfl (by kernel_rfl) (by kernel_rfl) (by kernel_rfl) (fun _ _ _ h => h) (by assumption) (by rfl) ?_
                      simp only [Act.put, List.setIfInBounds_toArray, List.set_cons_zero, List.set_cons_succ]
                      first
                        | (refine held_take 7 128 (v := ?_) rfl rfl (by kernel_rfl) (by kernel_rfl) (by kernel_rfl) (fun _ _ _ h => h) (by assumption) (by rfl) ?_ ?_; rotate_left; (focus (intro w hSw; obtain ⟨hS0, hS1, ⟨hS2, hS3⟩, hS4, hS5⟩ := hSw; go_simp <;> with_reducible rfl)))
                        | refine held_pass 7 128 rfl rfl (by kernel_rfl) (by kernel_rfl) (by kernel_rfl) (fun _ _ _ h => h) (by assumption) (by rfl) ?_
                      simp only [Act.put, List.setIfInBounds_toArray, List.set_cons_zero, List.set_cons_succ]
                      first
                        | (refine held_take 8 129 (v := ?_) rfl rfl (by kernel_rfl) (by kernel_rfl) (by kernel_rfl) (fun _ _ _ h => h) (by assumption) (by rfl) ?_ ?_; rotate_left; (focus (intro w hSw; obtain ⟨hS0, hS1, ⟨hS2, hS3⟩, hS4, hS5⟩ := hSw; go_simp <;> with_reducible rfl)))
                        | refine held_pass 8 129 rfl rfl (by kernel_rfl) (by kernel_rfl) (by kernel_rfl) (fun _ _ _ h => h) (by assumption) (by rfl) ?_
                      simp only [Act.put, List.setIfInBounds_toArray, List.set_cons_zero, List.set_cons_succ]
                      first
                        | (refine held_take 9 130 (v := ?_) rfl rfl (by kernel_rfl) (by kernel_rfl) (by kernel_rfl) (fun _ _ _ h => h) (by assumption) (by rfl) ?_ ?_; rotate_left; (focus (intro w hSw; obtain ⟨hS0, hS1, ⟨hS2, hS3⟩, hS4, hS5⟩ := hSw; go_simp <;> with_reducible rfl)))
                        | refine held_pass 9 130 rfl rfl (by kernel_rfl) (by kernel_rfl) (by kernel_rfl) (fun _ _ _ h => h) (by assumption) (by rfl) ?_
                      simp only [Act.put, List.setIfInBounds_toArray, List.set_cons_zero, List.set_cons_succ]
                      first
                        | (refine held_take 10 131 (v := ?_) rfl rfl (by kernel_rfl) (by kernel_rfl) (by kernel_rfl) (fun _ _ _ h => h) (by assumption) (by rfl) ?_ ?_; rotate_left; (focus (intro w hSw; obtain ⟨hS0, hS1, ⟨hS2, hS3⟩, hS4, hS5⟩ := hSw; go_simp <;> with_reducible rfl)))
                        | refine held_pass 10 131 rfl rfl (by kernel_rfl) (by kernel_rfl) (by kernel_rfl) (fun _ _ _ h => h) (by assumption) (by rfl) ?_
                      simp only [Act.put, List.setIfInBounds_toArray, List.set_cons_zero, List.set_cons_succ]
                      first
                        | (refine held_take 11 132 (v := ?_) rfl rfl (by kernel_rfl) (by kernel_rfl) (by kernel_rfl) (fun _ _ _ h => h) (by assumption) (by rfl) ?_ ?_; rotate_left; (focus (intro w hSw; obtain ⟨hS0, hS1, ⟨hS2, hS3⟩, hS4, hS5⟩ := hSw; go_simp <;> with_reducible rfl)))
                        | refine held_pass 11 132 rfl rfl (by kernel_rfl) (by kernel_rfl) (by kernel_rfl) (fun _ _ _ h => h) (by assumption) (by rfl) ?_
                      simp only [Act.put, List.setIfInBounds_toArray, List.set_cons_zero, List.set_cons_succ]
                      first
                        | (refine held_take 12 133 (v := ?_) rfl rfl (by kernel_rfl) (by kernel_rfl) (by kernel_rfl) (fun _ _ _ h => h) (by assumption) (by rfl) ?_ ?_; rotate_left; (focus (intro w hSw; obtain ⟨hS0, hS1, ⟨hS2, hS3⟩, hS4, hS5⟩ := hSw; go_simp <;> with_reducible rfl)))
                        | refine held_pass 12 133 rfl rfl (by kernel_rfl) (by kernel_rfl) (by kernel_rfl) (fun _ _ _ h => h) (by assumption) (by rfl) ?_
                      simp only [Act.put, List.setIfInBounds_toArray, List.set_cons_zero, List.set_cons_succ]
                      first
                        | (refine held_take 13 134 (v := ?_) rfl rfl (by kernel_rfl) (by kernel_rfl) (by kernel_rfl) (fun _ _ _ h => h) (by assumption) (by rfl) ?_ ?_; rotate_left; (focus (intro w hSw; obtain ⟨hS0, hS1, ⟨hS2, hS3⟩, hS4, hS5⟩ := hSw; go_simp <;> with_reducible rfl)))
                        | refine held_pass 13 134 rfl rfl (by kernel_rfl) (by kernel_rfl) (by kernel_rfl) (fun _ _ _ h => h) (by assumption) (by rfl) ?_
                      simp only [Act.put, List.setIfInBounds_toArray, List.set_cons_zero, List.set_cons_succ]
                      refine held_call 14 135 rfl rfl (by kernel_rfl) (by rfl) (fun K hK => ?_)
                      simp only [Go.wp_at_succ, Go.wp_at_zero]
                      go_simp
                      refine (HAC.out _ (HK.out.1.on By.kat (Below.drew (Below.refl _ _)))).mono ?_
                      rintro e u1 ⟨rfl, HA1⟩
                      first | (with_reducible refine hK.out _ _ ?_ (fun hHeld => ?_)) | (go_wp2_with fail; refine hK.out _ _ ?_ (fun hHeld => ?_))
                      · exact HS.out _ _ _ HA1.out
                      clear hK K
                      try simp only [Act.put, List.setIfInBounds_toArray, List.set_cons_zero, List.set_cons_succ]
                      first
                        | (refine held_take 15 136 (v := ?_) rfl rfl (by kernel_rfl) (by kernel_rfl) (by kernel_rfl) (fun _ _ _ h => h) (by assumption) (by rfl) ?_ ?_; rotate_left; (focus (intro w hSw; obtain ⟨hS0, hS1, ⟨hS2, hS3⟩, hS4, hS5⟩ := hSw; go_simp <;> with_reducible rfl)))
                        | refine held_pass 15 136 rfl rfl (by kernel_rfl) (by kernel_rfl) (by kernel_rfl) (fun _ _ _ h => h) (by assumption) (by rfl) ?_
                      simp only [Act.put, List.setIfInBounds_toArray, List.set_cons_zero, List.set_cons_succ]
                      first
                        | (refine held_take 16 137 (v := ?_) rfl rfl (by kernel_rfl) (by kernel_rfl) (by kernel_rfl) (fun _ _ _ h => h) (by assumption) (by rfl) ?_ ?_; rotate_left; (focus (intro w hSw; obtain ⟨hS0, hS1, ⟨hS2, hS3⟩, hS4, hS5⟩ := hSw; go_simp <;> with_reducible rfl)))
                        | refine held_pass 16 137 rfl rfl (by kernel_rfl) (by kernel_rfl) (by kernel_rfl) (fun _ _ _ h => h) (by assumption) (by rfl) ?_
                      simp only [Act.put, List.setIfInBounds_toArray, List.set_cons_zero, List.set_cons_succ]
                      refine wpAnyH_done (by kernel_rfl) ?_ _
                      clear hHeld
                      go_wp2_with fail
                      refine (HYS.out _ HA1.out).mono ?_
                      rintro e w6 ⟨rfl, H6⟩
                      go_wp2_with fail
                      go_roundw
                      case rel => exact ⟨k + 1, _, _, by go_num, by omega, H6.out, HREP.out, HYI.out⟩
                      case measure => simp [intOf]; omega
                  · obtain rfl : k = 5 := by omega
                    have HR2 := Lib.hid HK.out.1
                    have REP2 := Lib.hid HK.out.2.1
                    have YI5 := Lib.hid HK.out.2.2
                    have HG2 : Hid (Good ss2 br nd) := rep_good REP2.out (fun k hk => (good_acc (HG1.out k hk) HMAY.out Y0.out Y5.out).2.2) HG1.out
                    have HDN : Hid (∀ R, donB s2 = R → Calls Try.prog 19 #[.pointer (some ⟨p, 0, none⟩)] wr fun e w' => e = .returned (.bool R) ∧ Hid (RFv n w ps rb cap p (By b7 (b7 + 1) b10 b11 b19 ce cv cC br nd X (.slice ya 1 yc) y) ss2 s2 w')) := fun R hR =>
                      (to_don HR2.out.t hR).mono fun _ _ ⟨he, hh⟩ => ⟨he, HR2.out.on By.kat hh.out.2⟩
                    clear HK
                    by_cases h3 : 3 ≤ cntB (bitB X.yes) 5
                    · have HDT := Lib.hid (HDN.out true (by rw [yi_don YI5.out]; exact decide_eq_true h3))
                      have H3N := Lib.hid h3
                      clear HDN h3
                      rcases HCHO.out with h | ⟨h, x, hx, hc⟩
                      · subst h
                        clear HCHO
                        go_wp2_with fail
                        refine HDT.out.mono ?_
                        rintro e w5 ⟨rfl, R5⟩
                        have hk7 := R5.out.box.x.ch
                        obtain ⟨g0, g1, g2, g3⟩ := hk7.cells
                        obtain ⟨e0, e1, _, _⟩ := R5.out.box.c.cells
                        obtain ⟨k1, k2⟩ := hk7.stored (ep' := 2) (v' := .slice ya 1 yc)
                        have MS9 : Hid (MS n w ps rb cap b7 (b7 + 1) (i + 1) ss2 br nd 2 (.slice ya 1 yc) [y] (chW w5 b7 2 (.slice ya 1 yc))) :=
                          ⟨R5.out.five.beside hk7 (by decide) (by decide) (by decide) k2, k1, R5.out.box.r.beside hk7 (by decide) k2, (k2.block _ R5.out.box.x.tp.lt (by show ¬ _ = _; omega)).trans R5.out.box.x.tp,
                            k2.below R5.out.t.bel (fun x hx => by subst hx; exact HLOW.out.1) R5.out.t.size, HLOW.out, HG2.out, HMAY.out, by have := HFEW.out; show br ≤ ((i + 1 : Nat) : Int); omega, .inr ⟨rfl, y, rfl, cho_new REP2.out (prp_acc REP1.out HGOOD.out) HLT.out H3N.out⟩⟩
                        clear k1 k2 hk7
                        go_wp2_with fail
                        go_roundw
                        case rel => exact ⟨i + 1, ss2, br, (nd : Int), 2, .slice ya 1 yc, [y], by go_num, by omega, by omega, MS9.out⟩
                        case measure => simp [intOf]; omega
                      · subst h
                        have hxy : [x] = [y] := (ti_safe TI5.out H3.out hc).symm.trans HC.out
                        have HXY : Hid (cC = [y]) := hx.trans hxy
                        have HSM : Hid (∀ u, RFv n w ps rb cap p (By b7 (b7 + 1) b10 b11 b19 2 cv cC br nd X (.slice ya 1 yc) y) ss2 s2 u → Calls Try.prog 20 #[.agg #[.int .i64 2, cv], .agg #[.int .i64 2, .slice ya 1 yc]] u fun e w' => e = .returned (.bool true) ∧ Hid (RFv n w ps rb cap p (By b7 (b7 + 1) b10 b11 b19 2 cv cC br nd X (.slice ya 1 yc) y) ss2 s2 w')) := fun u hu => by
                          have hr := hu.box.x.row
                          rw [HXY.out] at hr
                          exact (refsame_any 2 2 cv (.slice ya 1 yc) [y] [y] u.heap.size u hr.ints hu.box.r.ints (Nat.le_refl _) (by simp)).mono fun _ _ ⟨he, hb⟩ => ⟨by simpa using he, hu.on By.kat hb⟩
                        clear HCHO hx hc hxy
                        go_wp2_with fail
                        refine HDT.out.mono ?_
                        rintro e w4' ⟨rfl, R4⟩
                        obtain ⟨g0, g1, _, _⟩ := R4.out.box.x.ch.cells
                        obtain ⟨e0, e1, _, _⟩ := R4.out.box.c.cells
                        go_wp2_with fail
                        refine (HSM.out _ R4.out).mono ?_
                        rintro e w5 ⟨rfl, R5⟩
                        clear g0 g1 e0 e1
                        have hk7 := R5.out.box.x.ch
                        obtain ⟨g0, g1, g2, g3⟩ := hk7.cells
                        obtain ⟨e0, e1, _, _⟩ := R5.out.box.c.cells
                        obtain ⟨k1, k2⟩ := hk7.stored (ep' := 2) (v' := .slice ya 1 yc)
                        have MS9 : Hid (MS n w ps rb cap b7 (b7 + 1) (i + 1) ss2 br nd 2 (.slice ya 1 yc) [y] (chW w5 b7 2 (.slice ya 1 yc))) :=
                          ⟨R5.out.five.beside hk7 (by decide) (by decide) (by decide) k2, k1, R5.out.box.r.beside hk7 (by decide) k2, (k2.block _ R5.out.box.x.tp.lt (by show ¬ _ = _; omega)).trans R5.out.box.x.tp,
                            k2.below R5.out.t.bel (fun x hx => by subst hx; exact HLOW.out.1) R5.out.t.size, HLOW.out, HG2.out, HMAY.out, by have := HFEW.out; show br ≤ ((i + 1 : Nat) : Int); omega, .inr ⟨rfl, y, rfl, cho_new REP2.out (prp_acc REP1.out HGOOD.out) HLT.out H3N.out⟩⟩
                        clear k1 k2 hk7
                        go_wp2_with fail
                        go_roundw
                        case rel => exact ⟨i + 1, ss2, br, (nd : Int), 2, .slice ya 1 yc, [y], by go_num, by omega, by omega, MS9.out⟩
                        case measure => simp [intOf]; omega
                    · have HDF := Lib.hid (HDN.out false (by rw [yi_don YI5.out]; exact decide_eq_false h3))
                      clear HDN h3
                      go_wp2_with fail
                      refine HDF.out.mono ?_
                      rintro e w5 ⟨rfl, R5⟩
                      go_wp2_with fail
                      go_roundw
                      case rel =>
                        refine ⟨i + 1, ss2, br, (nd : Int), ce, cv, cC, by go_num, by omega, by omega, R5.out.five, R5.out.box.x.ch, R5.out.box.x.row, R5.out.box.x.tp, R5.out.t.bel, HLOW.out, HG2.out, HMAY.out, by have := HFEW.out; omega, ?_⟩
                        rcases HCHO.out with h | ⟨h, x, hx, hc⟩
                        · exact .inl h
                        · have hxy : [x] = [y] := (ti_safe TI5.out H3.out hc).symm.trans HC.out
                          have e : x = y := by simpa using hxy
                          subst e
                          exact .inr ⟨h, x, hx, cho_acp REP2.out (cho_prp REP1.out (ltB_le HLT.out) hc)⟩
                      case measure => simp [intOf]; omega
              · have HRF := Lib.hid (HRD.out false (by rw [ti_rdy TI5.out]; exact decide_eq_false h3))
                clear HRD h3
                go_wp2_with fail
                refine HRF.out.mono ?_
                rintro e w3 ⟨rfl, H3⟩
                go_wp2_with fail
                go_roundw
                case rel =>
                  refine ⟨i + 1, ss1, br, (nd : Int), ce, cv, cC, by go_num, by omega, by omega, H3.out.five, H3.out.box.ch, H3.out.box.row, H3.out.box.tp, H3.out.t.bel, HLOW.out, HG1.out, HMAY.out, by have := HFEW.out; omega, ?_⟩
                  rcases HCHO.out with h | ⟨h, x, hx, hc⟩
                  · exact .inl h
                  · exact .inr ⟨h, x, hx, cho_prp REP1.out (ltB_le HLT.out) hc⟩
                case measure => simp [intOf]; omega
        · have hbel := HR.out.bel
          have HBL := Lib.hid hbel
          have HSZ : Hid (n ≤ wr.heap.size) := by have h1 := HR.out.low; have h2 := HR.out.tp.lt; show _ ≤ _; omega
          clear hbel
          by_cases h1 : i < m
          · have i1 : (i : Int) < (m : Int) := by omega
            have i2 : ¬ ((i : Int) < 20) := by omega
            go_wp2_with fail
            refine (HT.out _).mono ?_
            rintro e w2 ⟨rfl, B2⟩
            go_wp2
            go_returns
            exact ⟨by first | rfl | trivial, HBL.out.trans (B2.mono HSZ.out)⟩
          · have i1 : ¬ ((i : Int) < (m : Int)) := by omega
            go_wp2_with fail
            refine (HT.out _).mono ?_
            rintro e w2 ⟨rfl, B2⟩
            go_wp2
            go_returns
            exact ⟨by first | rfl | trivial, HBL.out.trans (B2.mono HSZ.out)⟩

set_option maxRecDepth 100000 in
theorem lifted (os : Os) (started : os.Started) (H : Type) (enc : TypeId × Value → H) :
    ReturnsInHanded {} Try.checked os 5 .any (Rows.tallyOneSpec.pre6 enc Try.prog Try.f5 Rows.tallyOneRow.domain false) (Rows.tallyOneSpec.post enc Try.prog Try.f5 false true false false) := by
  refine returnsInHanded_of_change (C := Try.checked) own started (by kernel_rfl) Try.func5
    (ChangeSpec.witness6 (enc := enc) (C := Try.checked) false ⟨#[], #[.slice none 0 0], []⟩ 8 (by kernel_rfl) (by kernel_rfl) (by kernel_rfl) (by kernel_rfl)) ?_
  intro W base args ds gs before hval0 hW hcnd _
  have hval : ∀ (j : Nat) t v, Try.f5.params[j]? = some t → args[j]? = some v → Value.okWide Try.prog W .any base t v := hval0
  have hW' := hW
  obtain ⟨p, q, hA0, hV, rfl, hfz, hnd⟩ := hW
  have hA : DataW.TrodAll enc Try.prog W 0 (fun _ => true) true Try.f5.params.toList args.toList ds p := hA0
  rw [Try.params5] at hA hval
  obtain ⟨v0, vs0, d0, ds0, p0, q0, hargs, rfl, rfl, h0, r0⟩ := trodAll_cons hA
  obtain ⟨rfl, rfl, rfl⟩ := trodAll_nil r0
  obtain rfl : args = #[v0] := by cases args; simp_all
  obtain ⟨rfl, rfl⟩ := trodVars_none hV
  obtain ⟨a0, len0, cap0, rfl⟩ := okWide_slice Try.underlying50 (hval 0 50 v0 rfl rfl)
  have k0 := h0
  have lt0 : ∀ x ∈ p0, x.block < W.heap.size := by obtain ⟨m, hm⟩ := k0; exact DataW.trod_lt m _ _ _ hm
  obtain ⟨l0, w0⟩ := tries_open h0
  clear hA0 hval0
  refine (walk (.slice a0 len0 cap0) l0 W w0).mono fun e W' ⟨he, bel⟩ => ?_
  subst he
  exact ⟨_, rfl, _, _, _, [], _, [], hW', trodAll_mk1 (shut_bool Try.underlying4 _), (trodAll_cons_mk (Below.trod laidOut (by kernel_rfl) (of_decide_eq_true (by kernel_rfl)) k0 bel lt0) trodAll_mk0), rfl, bel.frame _, fun h => by cases h⟩

theorem over : Rows.tallyOneRow.holds Try.pinned (OpenSpec.ofChange Rows.tallyOneSpec) :=
  OpenClaim.holds_of_wide 5 Try.f5 rfl rfl rfl rfl rfl rfl rfl ⟨rfl, rfl, rfl, rfl, rfl⟩ rfl rfl rfl rfl rfl (by kernel_rfl) Try.func5 (by kernel_rfl)
    (of_decide_eq_true (by kernel_rfl)) (by unfold Func.isWrapper; first | (rw [if_pos (by decide +kernel)]; kernel_rfl) | (rw [if_neg (by decide +kernel)]; exact ⟨rfl, rfl⟩))
    (fun os started H enc _ => lifted os started H enc)
end Go.Proofs.Ytiidmiioegdfaaa.TallyOne

namespace Go.Proofs.Ytiidmiioegdfaaa
theorem tallyOne_holds : Rows.TallyOneSaid := TallyOne.over
#print axioms tallyOne_holds
end Go.Proofs.Ytiidmiioegdfaaa
