/-
  THE PROGRAM's getNode, getList, GetChain: the chain that the bytes are, or none. No condition but lengths.
-/
import Derived.Test.YtaaffceanjpmbaaItemCMath
import Derived.Test.YtaaffceanjpmbaaItemGet
namespace Go.Proofs.Ytaaffceanjpmbaa
open Go.RowKit

set_option maxHeartbeats 400000 in
theorem getnode_any {lo : Nat} (h : Nat) (st : Option (List UInt8)) (w : World) (hR : RdrL lo w h st) (hm : ∀ l, st = some l → l.length ≤ 140737488355328) :
    Calls Try.prog 89 #[.pointer (some ⟨h, 0, none⟩)] w fun e w' => e = .returned (.int .i64 (rNum 4 st).1) ∧ RdrL lo w' h (rNum 4 st).2 ∧ w.grownBy w' (some h) := by
  have H := Lib.hid (getint_any h st 4 (by omega) w hR hm)
  obtain ⟨v, hv⟩ : ∃ v, v = (rNum 4 st).1 := ⟨_, rfl⟩
  rw [← hv] at H ⊢
  clear hR hm hv
  go_enter Try.func89, Try.ntmps89
  go_wp2_with fail
  refine H.out.mono ?_
  rintro e w1 ⟨rfl, h1, h2⟩
  go_wp2
  go_returns
  exact ⟨rfl, h1, h2⟩

theorem info_int : (Try.prog.info? 3).map (fun i => (i.zero, i.size, i.bytes)) = some (some (.int .i64 0), 1, 8) := by kernel_rfl

theorem src_one_int (w : World) (v : Value) (e : TypeId) (h1 : v.oneCell' = true) : Src Try.prog 1 22 (.slice (some ⟨w.heap.size, 0, none⟩) 1 1) 1 [v] (w.alloc (.cells #[v] e)) :=
  Src.ofSlice _ Try.underlying22 ⟨w.heap.size, 0, none⟩ 1 1 [v] rfl
    (by intro j u hj; match j, hj with | 0, hj => simp at hj; subst hj; simp [Addr.add])
    (by intro u hu; simp at hu; subst hu; exact h1)

/-- The numbers as ints. -/
def ofNats (L : List Nat) : List Int := L.map fun (n : Nat) => (n : Int)

/-- The reader behind k steps of the list. -/
def rAt (M : Nat) : Nat → Option (List UInt8) → Option (List UInt8)
  | 0, st => st
  | k + 1, st => rAt M k (rNum M st).2
/-- The list step by step from the left. -/
theorem rList_snoc (M : Nat) : ∀ (k : Nat) (st : Option (List UInt8)), rList M (k + 1) st = ((rList M k st).1 ++ [(rNum M (rList M k st).2).1], (rNum M (rList M k st).2).2) := by
  intro k
  induction k with
  | zero => intro st; rfl
  | succ k ih =>
    intro st
    have h := ih (rNum M st).2
    show ((rNum M st).1 :: (rList M (k + 1) (rNum M st).2).1, (rList M (k + 1) (rNum M st).2).2) = _
    rw [h]
    rfl
theorem rList_len (M : Nat) (b : Nat) : ∀ (k : Nat) (st : Option (List UInt8)), (∀ l, st = some l → l.length ≤ b) → ∀ l, (rList M k st).2 = some l → l.length ≤ b := by
  intro k
  induction k with
  | zero => intro st h l hl; exact h l hl
  | succ k ih => intro st h l hl; exact ih _ (rNum_len2 M st b h) l hl

theorem below_grown2 {w w' : World} (h : Below w.heap.size w w') : w.grownBy w' none := ⟨h.os, h.tape, h.output, h.size, fun k hk _ => h.block k hk⟩
theorem grown_mix {a b c : World} {h : Nat} {row : Option Nat} (h1 : a.grownBy b (some h)) (h2 : b.grownBy c row) (hr : ∀ g, row = some g → a.heap.size ≤ g) : a.grownBy c (some h) :=
  ⟨h2.os.trans h1.os, h2.tape.trans h1.tape, h2.output.trans h1.output, Nat.le_trans h1.size h2.size, fun k hk hne =>
    (h2.block k (Nat.lt_of_lt_of_le hk h1.size) (fun e => by have := hr k e.symm; omega)).trans (h1.block k hk hne)⟩

set_option maxHeartbeats 2000000 in
set_option maxRecDepth 100000 in
theorem getlist_any {lo : Nat} (h : Nat) (st : Option (List UInt8)) (fv : Value) (hfv : fv = .func (.func 89) #[] #[]) (w : World) (hR : RdrL lo w h st) (hm : ∀ l, st = some l → l.length ≤ 140737488355328) :
    Calls Try.prog 88 #[.pointer (some ⟨h, 0, none⟩), .int .i64 5, fv] w fun e w' => ∃ v', e = .returned v' ∧
      w'.ownsRow w.heap.size 3 1 v' (rNum 5 st).1 (intCells (ofNats (rList 4 (rNum 5 st).1 (rNum 5 st).2).1)) ∧ RdrL lo w' h (rList 4 (rNum 5 st).1 (rNum 5 st).2).2 ∧ w.grownBy w' (some h) := by
  subst hfv
  obtain ⟨i0, hi, hz0, hz1, hz2⟩ := info_parts info_int
  have H := Lib.hid (getint_any h st 5 (by omega) w hR hm)
  obtain ⟨n, s0, hns⟩ : ∃ n s0, rNum 5 st = (n, s0) := ⟨_, _, rfl⟩
  have hn5 : n ≤ 5 := by have := rNum_le 5 st; rw [hns] at this; exact this
  have hm0 := rNum_len2 5 st _ hm
  rw [hns] at H hm0 ⊢
  simp only at H hm0 ⊢
  have HM := Lib.hid hm0
  have lth := hR.lt
  clear hR hm hns hm0
  go_enter Try.func88, Try.ntmps88
  go_wp2_with fail
  refine H.out.mono ?_
  rintro e w1 ⟨rfl, R1, G1⟩
  go_wp2
  go_loopw [7, 11] (fun vl vi wr => ∃ k : Nat, k ≤ n ∧ vi = .int .i64 k ∧ wr.ownsRow w.heap.size 3 1 vl k (intCells (ofNats (rList 4 k s0).1)) ∧ RdrL lo wr h (rList 4 k s0).2 ∧ w.grownBy wr (some h))
    (fun _ vi _ => n - (intOf vi).toNat)
  case atStart => exact ⟨0, by omega, rfl, World.ownsRow_nil _ _ _ _, R1, G1⟩
  case round =>
    obtain ⟨k, hk, rfl, hown, hRk, hG⟩ := hrel
    have hsz := hG.size
    by_cases hlt : k < n
    · have HS := Lib.hid (rList_snoc 4 k s0)
      have HA := Lib.hid (getnode_any h _ wr hRk (rList_len 4 _ k s0 HM.out))
      obtain ⟨x, s1, hx⟩ : ∃ x s1, rNum 4 (rList 4 k s0).2 = (x, s1) := ⟨_, _, rfl⟩
      rw [hx] at HS HA
      simp only at HS HA
      have HK := Lib.hid hown
      obtain ⟨a0, c0, rfl⟩ := own_shape hown
      have lt2 := hRk.lt
      clear hx hRk hown
      go_wp2_with fail
      refine HA.out.mono ?_
      rintro e w2 ⟨rfl, R2, G2⟩
      have hown2 : w2.ownsRow w.heap.size 3 1 (.slice a0 k c0) k (intCells (ofNats (rList 4 k s0).1)) := by
        refine ⟨HK.out.1, ?_⟩
        rcases HK.out.2 with hz | ⟨g, cap, cur, hv, hg, hh, rest⟩
        · exact .inl hz
        · exact .inr ⟨g, cap, cur, hv, hg, (G2.block g (lt_of_block hh) (fun e => by have := Option.some.inj e; omega)).trans hh, rest⟩
      have hsz2 := G2.size
      go_wp2_with (at_builtin; refine wpList_append_own_src rfl (.tmp 13) (.tmp 17) 22 22 rfl w.heap.size 3 i0 (.int .i64 0) 1 8 Try.underlying22 hi hz0 hz1 hz2 rfl _ _ _ rfl (hown2.alloc _) _ 1 [Value.int .i64 (x : Int)] rfl (src_one_int w2 _ _ rfl) ?c3 ?c4 ?c5 ?_)
      case c3 => unfold maxLen; omega
      case c4 => omega
      case c5 => simp; omega
      intro v' w3 hown' hgrow
      have HL : Hid (Below w.heap.size w2 w3) := ((Below.refl _ _).alloc (by omega) _).grown hgrow (by simp; omega) (fun g hg => (hown2.lt g hg).1)
      have hrow : ∀ g, (Value.slice a0 k c0).ownBlock = some g → w.heap.size ≤ g := fun g hg => (hown2.lt g hg).1
      have HG3 : Hid (w.grownBy w3 (some h)) :=
        grown_mix (grown_mix (grownBy_trans hG G2) (below_grown2 ((Below.refl _ w2).alloc (Nat.le_refl _) _)) (fun g hg => by cases hg)) hgrow hrow
      have HR3 : Hid (RdrL lo w3 h s1) := R2.keep (HL.out.mono (by omega))
      obtain ⟨a', c', rfl⟩ := own_shape hown'
      have HO := Lib.hid hown'
      clear hgrow hrow hown' hown2 R2 G2
      go_wp2
      go_roundw
      case rel =>
        refine ⟨k + 1, by omega, by go_num, ?_, by rw [HS.out]; exact HR3.out, HG3.out⟩
        rw [HS.out]
        have e : intCells (ofNats ((rList 4 k s0).1 ++ [x])) = intCells (ofNats (rList 4 k s0).1) ++ [Value.int .i64 (x : Int)] := by simp [intCells, ofNats]
        rw [e]
        exact HO.out
      case measure => simp [intOf]; omega
    · have hkn : k = n := by omega
      subst hkn
      have HO := Lib.hid hown
      have HR' := Lib.hid hRk
      obtain ⟨a0, c0, rfl⟩ := own_shape hown
      clear hown hRk
      go_wp2
      go_returns
      exact ⟨_, rfl, HO.out, HR'.out, hG⟩
end Go.Proofs.Ytaaffceanjpmbaa
