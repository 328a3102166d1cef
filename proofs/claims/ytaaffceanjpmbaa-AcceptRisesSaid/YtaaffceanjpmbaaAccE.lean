/-
  THE PROGRAM's ACCEPTOR: Bytes, by parts that are put one after the other. For an acceptor as it may be.
-/
import Derived.Test.YtaaffceanjpmbaaAccB
import Derived.Test.YtaaffceanjpmbaaPackBase
import Derived.Test.YtaaffceanjpmbaaBallotP
import Derived.Test.YtaaffceanjpmbaaItemC
namespace Go.Proofs.Ytaaffceanjpmbaa
open Go.RowKit

/-- A chain's bytes as a Text. -/
def chainText (ep : Int) (L : List Int) : List UInt8 := Lib.uvarint (ChainV.bytes ⟨ep, L⟩).length ++ ChainV.bytes ⟨ep, L⟩
def VoteV.bytes (v : VoteV) : List UInt8 := if v.has = true then balBytes v.ar.toNat v.an.toNat ++ chainText v.ce v.C else []
def AccV.head (s : AccV) : List UInt8 := chainText s.ke s.K ++ balBytes s.v.pr.toNat s.v.pn.toNat ++ [if s.v.has = true then 1 else 0]
/-- An acceptor's bytes. -/
def AccV.bytes (s : AccV) : List UInt8 := s.head ++ s.v.bytes
theorem chainBytes_len {ep : Int} {L : List Int} (h : ChainV.may ⟨ep, L⟩) : (ChainV.bytes ⟨ep, L⟩).length ≤ 100 := by
  have e := ChainV.got_chain ⟨ep, L⟩ h
  rw [← ChainV.got_bytes]
  exact chain_len _ (by rw [e]; exact h)
theorem chainText_len {ep : Int} {L : List Int} (h : ChainV.may ⟨ep, L⟩) : (chainText ep L).length ≤ 110 := by
  have h1 := chainBytes_len h
  have h2 := Lib.uvarint_length64 (x := (ChainV.bytes ⟨ep, L⟩).length) (by omega)
  unfold chainText
  rw [List.length_append]
  omega
theorem bal_len {r k : Int} (h : mayV r k = true) : (balBytes r.toNat k.toNat).length ≤ 20 := by
  have := mayV_yes.1 h
  exact balBytes_len (by omega) (by omega)
theorem AccV.ok.hlen {s : AccV} (h : s.ok) : s.head.length ≤ 131 := by
  have h1 := chainText_len h.may
  have h2 := bal_len h.p
  unfold AccV.head
  rw [List.length_append, List.length_append, List.length_singleton]
  omega
theorem AccV.ok.vlen {s : AccV} (h : s.ok) : s.v.bytes.length ≤ 130 := by
  unfold VoteV.bytes
  split
  · rename_i hh
    have h1 := chainText_len (h.yes hh).2.1
    have h2 := bal_len h.a
    rw [List.length_append]
    omega
  · simp
theorem AccV.ok.blen {s : AccV} (h : s.ok) : s.bytes.length ≤ 261 := by
  have h1 := h.hlen
  have h2 := h.vlen
  unfold AccV.bytes
  rw [List.length_append]
  omega

theorem KeepU.of {g : Nat} {w w' : World} (h : Below w.heap.size w w') : KeepU g w w' := ⟨h.size, fun k _ hk _ _ => (h.block k (Array.getElem?_eq_some_iff.1 hk).1).trans hk⟩
theorem KeepU.cells {g : Nat} {w w' : World} (h : KeepU g w w') {b : Nat} {cs : Array Value} {T : TypeId} (hb : w.heap[b]? = some (.cells cs T (0, 0))) (hg : b ≠ g) (hT : T ≠ 5) : w'.heap[b]? = some (.cells cs T (0, 0)) :=
  h.same b _ hb hg (fun cs' fr e => by simp only [Obj.cells.injEq] at e; exact hT e.2.1)
theorem RowI.keepU {g : Nat} {w w' : World} {v : Value} {L : List Int} (h : RowI w v L) (hk : KeepU g w w') {cs : Array Value} {T : TypeId} (hg : w.heap[g]? = some (.cells cs T (0, 0))) (hT : T ≠ 3) : RowI w' v L := by
  obtain ⟨ao, cap, rfl, h1, h2, h3, h4⟩ := h
  refine ⟨ao, cap, rfl, h1, h2, h3, fun hl => ?_⟩
  obtain ⟨b, off, cs', rfl, hb, hc⟩ := h4 hl
  have hne : b ≠ g := fun e => by
    subst e
    rw [hg] at hb
    simp only [Option.some.injEq, Obj.cells.injEq] at hb
    exact hT hb.2.1
  have e := hk.cells hb hne (by decide)
  exact ⟨b, off, cs', rfl, e, fun j hj => (World.cell?_of_block (a := ⟨b, off + j, Option.none⟩) (e.trans hb.symm)).trans (hc j hj)⟩

/-- A call of this function enters it. -/
def Enters (fn : FuncId) : Prop := ∀ (args : Array Value) (u : World), (callFunc fn args).run Try.prog u = .ok (.enter fn args) u
theorem enters_c : Enters 63 := fun args u => by go_simp
theorem enters_b : Enters 66 := fun args u => by go_simp
theorem enters_y : Enters 68 := fun args u => by go_simp
/-- What puts some bytes to the writer g, whatever else was put before. -/
def PartK (w : World) (g : Nat) (fn : FuncId) (bx : Nat) (bs : List UInt8) : Prop :=
  ∀ u xs, KeepU g w u → Below g w u → Wrt u g xs → xs.length ≤ 100000 → Calls Try.prog fn #[.pointer (some ⟨g, 0, none⟩), .pointer (some ⟨bx, 0, none⟩)] u fun e w' => e = .returned (.tuple #[]) ∧ Wrt w' g (xs ++ bs) ∧ Below g u w' ∧ KeepU g u w'

set_option maxRecDepth 100000 in
set_option maxHeartbeats 1000000 in
theorem partC {w : World} {g bx B : Nat} {ep : Int} {v : Value} {L : List Int} (hc : ChT w bx ep v) (hI : Ints w B v L) (hB : B ≤ g) (hm : ChainV.may ⟨ep, L⟩) (hne : bx ≠ g) : PartK w g 63 bx (chainText ep L) := by
  intro u xs hk hbg hW hx
  have c := hk.cells hc hne (by decide)
  have r := hI.keep (hbg.mono hB)
  have hlen := chainBytes_len hm
  have HP := Lib.hid (putchain_yes ep v L B u r (by have := hW.lt; omega) hm)
  have HW := Lib.hid hW
  have hgl := hW.lt
  obtain ⟨c0, c1, _, _⟩ := ChT.cells (show ChT u bx ep v from c)
  obtain ⟨a0, q0, rfl⟩ : ∃ a c, v = .slice a L.length c := by obtain ⟨a, c, h, _⟩ := hI; exact ⟨a, c, h⟩
  obtain ⟨X, hX⟩ : ∃ X, X = ChainV.bytes ⟨ep, L⟩ := ⟨_, rfl⟩
  unfold chainText
  rw [← hX] at HP hlen ⊢
  clear hX hI hc hk hW r c hm hne hbg
  go_enter Try.func63, Try.ntmps63
  go_wp2_with fail
  refine HP.out.mono ?_
  rintro e w1 ⟨v', rfl, O1, B1⟩
  have hw1 := HW.out.below B1
  have HT := Lib.hid (wtextk_any g ⟨X.toArray⟩ xs w1 hw1 (by show xs.length + 10 + X.toArray.size ≤ _; rw [List.size_toArray]; omega))
  have HB1 := Lib.hid B1
  have kx := run_conv_byt (byt_own O1 (Nat.le_refl _))
  obtain ⟨a1, q1, rfl⟩ := own_shape O1
  clear O1 B1 hw1 c0 c1
  go_wp2_with fail
  refine HT.out.mono ?_
  rintro e w2 ⟨rfl, W2, B2, K2⟩
  go_wp2
  go_end0
  refine ⟨rfl, ?_, (HB1.out.mono (Nat.le_of_lt hgl)).trans B2, (KeepU.of HB1.out).trans K2⟩
  have e1 : (⟨X.toArray⟩ : ByteArray).size = X.length := List.size_toArray ..
  rw [e1] at W2
  rw [← List.append_assoc]
  exact W2
set_option maxRecDepth 100000 in
set_option maxHeartbeats 1000000 in
theorem partB {w : World} {g bx r k : Nat} (hb : BalB w bx r k) (hr : r < 9223372036854775808) (hn : k < 9223372036854775808) (hne : bx ≠ g) : PartK w g 66 bx (balBytes r k) := by
  intro u xs hk _ hW hx
  have c : BalB u bx r k := hk.cells hb hne (by decide)
  have HT := Lib.hid (vput_any g r k xs u hr hn hW (by omega))
  obtain ⟨c0, c1, _, _⟩ := c.cells
  clear hb hk hW hr hn c hne
  go_enter Try.func66, Try.ntmps66
  go_wp2_with fail
  refine HT.out.mono ?_
  rintro e w2 ⟨rfl, W2, B2, K2⟩
  go_wp2
  go_end0
  exact ⟨rfl, W2, B2, K2⟩
set_option maxRecDepth 100000 in
set_option maxHeartbeats 1000000 in
theorem partY {w : World} {g bx : Nat} {b : Bool} (hb : BoB w bx b) (hne : bx ≠ g) : PartK w g 68 bx [if b then 1 else 0] := by
  intro u xs hk _ hW hx
  have c : BoB u bx b := hk.cells hb hne (by decide)
  have HT := Lib.hid (wyesk_any g b xs u hW (by omega))
  obtain ⟨c0, c1⟩ := c.cells
  generalize (if b = true then (1 : UInt8) else 0) = y at HT ⊢
  clear hb hk hW c hne
  go_enter Try.func68, Try.ntmps68
  go_wp2_with fail
  refine HT.out.mono ?_
  rintro e w2 ⟨rfl, W2, B2, K2⟩
  go_wp2
  go_end0
  exact ⟨rfl, W2, B2, K2⟩

set_option maxHeartbeats 400000 in
theorem achainpart_any (ep : Int) (a : Option Addr) (n c : Nat) (w : World) : Calls Try.prog 38 #[.agg #[.int .i64 ep, .slice a n c]] w fun e w' => e = .returned (.func (.func 63) #[] #[.pointer (some ⟨w.heap.size, 0, none⟩)]) ∧ w' = w.alloc (.cells #[.int .i64 ep, .slice a n c] 28) := by
  go_enter Try.func38, Try.ntmps38
  go_wp2
  go_returns
  exact ⟨rfl, by first | rfl | trivial⟩
set_option maxHeartbeats 400000 in
theorem aballotpart_any (r k : Int) (w : World) : Calls Try.prog 39 #[.agg #[.int .i64 r, .int .i64 k]] w fun e w' => e = .returned (.func (.func 66) #[] #[.pointer (some ⟨w.heap.size, 0, none⟩)]) ∧ w' = w.alloc (.cells #[.int .i64 r, .int .i64 k] 30) := by
  go_enter Try.func39, Try.ntmps39
  go_wp2
  go_returns
  exact ⟨rfl, by first | rfl | trivial⟩
set_option maxHeartbeats 400000 in
theorem ayespart_any (b : Bool) (w : World) : Calls Try.prog 40 #[.bool b] w fun e w' => e = .returned (.func (.func 68) #[] #[.pointer (some ⟨w.heap.size, 0, none⟩)]) ∧ w' = w.alloc (.cells #[.bool b] 4) := by
  go_enter Try.func40, Try.ntmps40
  go_wp2
  go_returns
  exact ⟨rfl, by first | rfl | trivial⟩

/-- What the first k of some parts put. -/
def flatB (bs : Nat → List UInt8) (k : Nat) : List UInt8 := (List.range k).flatMap bs
theorem flatB_succ (bs : Nat → List UInt8) (k : Nat) : flatB bs (k + 1) = flatB bs k ++ bs k := by simp [flatB, List.range_succ]
theorem flatB_len (bs : Nat → List UInt8) (h : ∀ j, (bs j).length ≤ 1000) (k : Nat) : (flatB bs k).length ≤ k * 1000 := by
  induction k with
  | zero => simp [flatB]
  | succ k ih => rw [flatB_succ, List.length_append]; have := h k; omega

set_option maxRecDepth 100000 in
set_option maxHeartbeats 2000000 in
theorem aput_r (n g b : Nat) (cs : Array Value) (fn : Nat → FuncId) (bx : Nat → Nat) (bs : Nat → List UInt8) (xs : List UInt8) (w : World) (hn : n ≤ 3) (hW : Wrt w g xs) (hx : xs.length ≤ 1000) (hb : w.heap[b]? = some (.cells cs 76 (0, 0))) (hbg : b ≠ g)
    (hcs : ∀ j, j < n → cs[j]? = some (.func (.func (fn j)) #[] #[.pointer (some ⟨bx j, 0, none⟩)])) (hl : ∀ j, (bs j).length ≤ 1000) (hE : ∀ j, j < n → Enters (fn j)) (hP : ∀ j, j < n → PartK w g (fn j) (bx j) (bs j)) :
    Calls Try.prog 37 #[.pointer (some ⟨g, 0, none⟩), .slice (some ⟨b, 0, none⟩) n n] w fun e w' => e = .returned (.tuple #[]) ∧ Wrt w' g (xs ++ flatB bs n) ∧ Below g w w' ∧ KeepU g w w' := by
  have HW := Lib.hid hW
  have HBX := Lib.hid hb
  have HCS := Lib.hid hcs
  have HP := Lib.hid hP
  have HL := Lib.hid (flatB_len bs hl)
  clear hW hb hcs hP hl
  go_enter Try.func37, Try.ntmps37
  go_wp2
  go_loopw [8] (fun s8 wr => ∃ k : Nat, k ≤ n ∧ s8 = .int .i64 k ∧ Hid (Wrt wr g (xs ++ flatB bs k) ∧ Below g w wr ∧ KeepU g w wr)) (fun s8 _ => n - (intOf s8).toNat)
  case atStart => exact ⟨0, Nat.zero_le _, rfl, by simpa [flatB] using HW.out, Below.refl _ _, KeepU.refl _ _⟩
  case round =>
    obtain ⟨k, hk, rfl, HR⟩ := hrel
    by_cases hlt : k < n
    · have k1 : (k : Int) < (n : Int) := by omega
      have k0 : (0 : Int) ≤ (k : Int) := by omega
      have hbk := HR.out.2.2.cells HBX.out hbg (by decide)
      have hc : wr.cell? ⟨b, k, none⟩ = some (.func (.func (fn k)) #[] #[.pointer (some ⟨bx k, 0, none⟩)]) := by rw [cell_of_row _ _ _ _ _ _ hbk]; exact HCS.out k hlt
      have hll : (xs ++ flatB bs k).length ≤ 100000 := by rw [List.length_append]; have := HL.out k; omega
      have HC := Lib.hid (HP.out k hlt wr _ HR.out.2.2 HR.out.2.1 HR.out.1 hll)
      have HS : Hid (xs ++ flatB bs k ++ bs k = xs ++ flatB bs (k + 1)) := by show _ = _; rw [flatB_succ, List.append_assoc]
      have he := fun args u => hE k hlt args u
      clear hbk hll
      go_wp2_with fail
      refine HC.out.mono ?_
      rintro e w1 ⟨rfl, W1, B1, K1⟩
      have H1 := Lib.hid W1
      have H2 := Lib.hid (HR.out.2.1.trans B1)
      have H3 := Lib.hid (HR.out.2.2.trans K1)
      clear W1 B1 K1 hc
      go_wp2
      go_roundw
      case rel => exact ⟨k + 1, by omega, by go_num, by rw [← HS.out]; exact H1.out, H2.out, H3.out⟩
      case measure => simp [intOf]; omega
    · obtain rfl : k = n := by omega
      go_wp2
      go_end0
      exact ⟨rfl, HR.out.1, HR.out.2.1, HR.out.2.2⟩
set_option maxRecDepth 100000 in
set_option maxHeartbeats 8000000 in
theorem abytes_r {w : World} {p : Nat} {s : AccV} (hA : Acc 63 w p s) (hok : s.ok) :
    Calls Try.prog 17 #[.pointer (some ⟨p, 0, none⟩)] w fun e w' => ∃ v', e = .returned v' ∧ w'.ownsRow w.heap.size 5 1 v' s.bytes.length (Lib.byteCells s.bytes) ∧ Below w.heap.size w w' := by
  obtain ⟨kv, cv, hA⟩ := hA
  obtain ⟨ka, kc, rfl⟩ := hA.k.shape
  obtain ⟨ca, cc, rfl⟩ := hA.c.shape
  obtain ⟨g, hg⟩ : ∃ g, g = w.heap.size := ⟨_, rfl⟩
  have hp := hA.b.lt
  obtain ⟨W, hW⟩ : ∃ W, W = w.alloc (.cells #[.slice none 0 0] 72) := ⟨_, rfl⟩
  have hb : Below w.heap.size w W := by rw [hW]; exact (Below.refl _ w).alloc (Nat.le_refl _) _
  have hsW : W.heap.size = g + 1 := by rw [hW, hg]; simp
  have hw0 : Wrt W g [] := by rw [hW, hg]; exact Wrt.fresh w _
  have hr1 := mayV_yes.1 hok.p
  have hr2 := mayV_yes.1 hok.a
  have l1 := hok.hlen
  have l2 := hok.vlen
  have lc := chainText_len hok.may
  have lb := bal_len hok.p
  have lb2 := bal_len hok.a
  have HPC : Hid (∀ u, Below W.heap.size W u → Calls Try.prog 38 #[.agg #[.int .i64 s.ke, .slice ka s.K.length kc]] u fun e w' => ∃ b, e = .returned (.func (.func 63) #[] #[.pointer (some ⟨b, 0, none⟩)]) ∧ Hid (ChT w' b s.ke (.slice ka s.K.length kc) ∧ W.heap.size ≤ b ∧ Below u.heap.size u w')) := fun u hu => (achainpart_any s.ke ka _ kc u).mono fun e w' ⟨he, hw⟩ => by
    subst hw; exact ⟨_, he, ChT.fresh u _ _, hu.size, (Below.refl _ u).alloc (Nat.le_refl _) _⟩
  have HPB : Hid (∀ u, Below W.heap.size W u → Calls Try.prog 39 #[.agg #[.int .i64 s.v.pr, .int .i64 s.v.pn]] u fun e w' => ∃ b, e = .returned (.func (.func 66) #[] #[.pointer (some ⟨b, 0, none⟩)]) ∧ Hid (BalB w' b s.v.pr s.v.pn ∧ W.heap.size ≤ b ∧ Below u.heap.size u w')) := fun u hu => (aballotpart_any s.v.pr s.v.pn u).mono fun e w' ⟨he, hw⟩ => by
    subst hw; exact ⟨_, he, BalB.fresh u _ _, hu.size, (Below.refl _ u).alloc (Nat.le_refl _) _⟩
  have HPY : Hid (∀ u, Below W.heap.size W u → Calls Try.prog 40 #[.bool s.v.has] u fun e w' => ∃ b, e = .returned (.func (.func 68) #[] #[.pointer (some ⟨b, 0, none⟩)]) ∧ Hid (BoB w' b s.v.has ∧ W.heap.size ≤ b ∧ Below u.heap.size u w')) := fun u hu => (ayespart_any s.v.has u).mono fun e w' ⟨he, hw⟩ => by
    subst hw; exact ⟨_, he, heap_alloc_new u _, hu.size, (Below.refl _ u).alloc (Nat.le_refl _) _⟩
  have hpr : s.v.pr = ((s.v.pr.toNat : Nat) : Int) := by omega
  have hpn : s.v.pn = ((s.v.pn.toNat : Nat) : Int) := by omega
  have har : s.v.ar = ((s.v.ar.toNat : Nat) : Int) := by omega
  have han : s.v.an = ((s.v.an.toNat : Nat) : Int) := by omega
  have HPUT : Hid (∀ u b1 b2 b3, Below W.heap.size W u → ChT u b1 s.ke (.slice ka s.K.length kc) → BalB u b2 s.v.pr s.v.pn → BoB u b3 s.v.has → W.heap.size ≤ b1 → W.heap.size ≤ b2 → W.heap.size ≤ b3 →
      Calls Try.prog 37 #[.pointer (some ⟨g, 0, none⟩), .slice (some ⟨u.heap.size, 0, none⟩) 3 3] (u.alloc (.cells #[.func (.func 63) #[] #[.pointer (some ⟨b1, 0, none⟩)], .func (.func 66) #[] #[.pointer (some ⟨b2, 0, none⟩)], .func (.func 68) #[] #[.pointer (some ⟨b3, 0, none⟩)]] 76)) fun e w' => e = .returned (.tuple #[]) ∧ Hid (Wrt w' g s.head ∧ KeepU g W w' ∧ Below g w w')) := fun u b1 b2 b3 hu h1 h2 h3 n1 n2 n3 => by
    have hua : Below u.heap.size u (u.alloc (.cells #[.func (.func 63) #[] #[.pointer (some ⟨b1, 0, none⟩)], .func (.func 66) #[] #[.pointer (some ⟨b2, 0, none⟩)], .func (.func 68) #[] #[.pointer (some ⟨b3, 0, none⟩)]] 76)) := (Below.refl _ u).alloc (Nat.le_refl _) _
    have hsu := hu.size
    have hwu : Wrt (u.alloc (.cells #[.func (.func 63) #[] #[.pointer (some ⟨b1, 0, none⟩)], .func (.func 66) #[] #[.pointer (some ⟨b2, 0, none⟩)], .func (.func 68) #[] #[.pointer (some ⟨b3, 0, none⟩)]] 76)) g [] := (hw0.below hu).alloc _
    have hBg : Below g w (u.alloc (.cells #[.func (.func 63) #[] #[.pointer (some ⟨b1, 0, none⟩)], .func (.func 66) #[] #[.pointer (some ⟨b2, 0, none⟩)], .func (.func 68) #[] #[.pointer (some ⟨b3, 0, none⟩)]] 76)) := (hg ▸ hb).trans ((hu.trans (hua.mono hsu)).mono (by omega))
    refine (aput_r 3 g u.heap.size #[.func (.func 63) #[] #[.pointer (some ⟨b1, 0, none⟩)], .func (.func 66) #[] #[.pointer (some ⟨b2, 0, none⟩)], .func (.func 68) #[] #[.pointer (some ⟨b3, 0, none⟩)]] (fun j => if j = 0 then 63 else if j = 1 then 66 else 68) (fun j => if j = 0 then b1 else if j = 1 then b2 else b3) (fun j => if j = 0 then chainText s.ke s.K else if j = 1 then balBytes s.v.pr.toNat s.v.pn.toNat else [if s.v.has then 1 else 0]) [] _ (by omega) hwu (by simp) (heap_alloc_new u _) (by omega) ?_ ?_ ?_ ?_).mono fun e w' ⟨he, q1, q2, q3⟩ => ⟨he, ?_, (KeepU.of (hu.trans (hua.mono hsu))).trans q3, hBg.trans q2⟩
    · intro j hj
      match j, hj with
      | 0, _ => rfl
      | 1, _ => rfl
      | 2, _ => rfl
    · intro j
      split
      · omega
      · split
        · omega
        · simp
    · intro j hj
      match j, hj with
      | 0, _ => exact enters_c
      | 1, _ => exact enters_b
      | 2, _ => exact enters_y
    · intro j hj
      match j, hj with
      | 0, _ =>
        show PartK _ g 63 b1 (chainText s.ke s.K)
        exact partC (h1.keep hua h1.lt) ((hA.k.ints.mono (by omega)).keep hBg) (Nat.le_refl _) hok.may (by omega)
      | 1, _ =>
        rw [hpr, hpn] at h2
        show PartK _ g 66 b2 (balBytes s.v.pr.toNat s.v.pn.toNat)
        exact partB (h2.keep hua h2.lt) (by omega) (by omega) (by omega)
      | 2, _ =>
        show PartK _ g 68 b3 [if s.v.has then 1 else 0]
        exact partY (hua.block _ (lt_of_block h3) |>.trans h3) (by omega)
    · have e1 : [] ++ flatB (fun j => if j = 0 then chainText s.ke s.K else if j = 1 then balBytes s.v.pr.toNat s.v.pn.toNat else [if s.v.has then 1 else 0]) 3 = s.head := by
        rw [flatB_succ, flatB_succ, flatB_succ]
        simp [flatB, AccV.head]
      rw [← e1]
      exact q1
  have a0 := hA.on hb
  have HS : Hid (∀ u, Below W.heap.size W u → AccB 63 u p (.slice ka s.K.length kc) (.slice ca s.v.C.length cc) s) := fun u hu => a0.b.on hu
  have HSU : Hid (∀ u, KeepU g W u → AccB 63 u p (.slice ka s.K.length kc) (.slice ca s.v.C.length cc) s) := fun u hu => hu.cells a0.b (by omega) (by decide)
  have HB := Lib.hid hb
  have HW := Lib.hid hW
  have HSW := Lib.hid hsW
  have HG := Lib.hid hg
  have HA := Lib.hid hA
  have A0 := Lib.hid a0
  have HOK := Lib.hid hok
  have l3 : s.bytes.length ≤ 261 := hok.blen
  clear hb hW hg hsW hw0 hr1 hr2 l1 l2 lc lb lb2 hpr hpn hA a0 hok har han
  go_enter Try.func17, Try.ntmps17
  go_wp2_with fail
  rw [← HW.out, ← HG.out]
  have b0 := (Below.drew (Below.refl W.heap.size W))
  have HB0 := Lib.hid b0
  clear b0
  refine wp_region_held_drew (S := (fun u => AccB 63 u p (.slice ka s.K.length kc) (.slice ca s.v.C.length cc) s)) (by kernel_rfl) (HS.out _ HB0.out) (fun hHeld => ?_)
  first
    | (refine held_take 0 6 (v := ?_) rfl rfl (by kernel_rfl) (by kernel_rfl) (by kernel_rfl) (fun _ _ _ h => h) (by assumption) (by rfl) ?_ ?_; rotate_left; (focus (intro w hSw; obtain ⟨_, hS1, hS2, hS3, hS4, hS5, hS6, hS7, hS8, hS9⟩ := AccB.cells hSw; go_simp <;> with_reducible rfl)))
    | refine held_pass 0 6 rfl rfl (by kernel_rfl) (by kernel_rfl) (by kernel_rfl) (fun _ _ _ h => h) (by assumption) (by rfl) ?_
  simp only [Act.put, List.setIfInBounds_toArray, List.set_cons_zero, List.set_cons_succ]
  first
    | (refine held_take 1 7 (v := ?_) rfl rfl (by kernel_rfl) (by kernel_rfl) (by kernel_rfl) (fun _ _ _ h => h) (by assumption) (by rfl) ?_ ?_; rotate_left; (focus (intro w hSw; obtain ⟨_, hS1, hS2, hS3, hS4, hS5, hS6, hS7, hS8, hS9⟩ := AccB.cells hSw; go_simp <;> with_reducible rfl)))
    | refine held_pass 1 7 rfl rfl (by kernel_rfl) (by kernel_rfl) (by kernel_rfl) (fun _ _ _ h => h) (by assumption) (by rfl) ?_
  simp only [Act.put, List.setIfInBounds_toArray, List.set_cons_zero, List.set_cons_succ]
  first
    | (refine held_take 2 8 (v := ?_) rfl rfl (by kernel_rfl) (by kernel_rfl) (by kernel_rfl) (fun _ _ _ h => h) (by assumption) (by rfl) ?_ ?_; rotate_left; (focus (intro w hSw; obtain ⟨_, hS1, hS2, hS3, hS4, hS5, hS6, hS7, hS8, hS9⟩ := AccB.cells hSw; go_simp <;> with_reducible rfl)))
    | refine held_pass 2 8 rfl rfl (by kernel_rfl) (by kernel_rfl) (by kernel_rfl) (fun _ _ _ h => h) (by assumption) (by rfl) ?_
  simp only [Act.put, List.setIfInBounds_toArray, List.set_cons_zero, List.set_cons_succ]
  first
    | (refine held_take 3 9 (v := ?_) rfl rfl (by kernel_rfl) (by kernel_rfl) (by kernel_rfl) (fun _ _ _ h => h) (by assumption) (by rfl) ?_ ?_; rotate_left; (focus (intro w hSw; obtain ⟨_, hS1, hS2, hS3, hS4, hS5, hS6, hS7, hS8, hS9⟩ := AccB.cells hSw; go_simp <;> with_reducible rfl)))
    | refine held_pass 3 9 rfl rfl (by kernel_rfl) (by kernel_rfl) (by kernel_rfl) (fun _ _ _ h => h) (by assumption) (by rfl) ?_
  simp only [Act.put, List.setIfInBounds_toArray, List.set_cons_zero, List.set_cons_succ]
  first
    | (refine held_take 5 11 (v := ?_) rfl rfl (by kernel_rfl) (by kernel_rfl) (by kernel_rfl) (fun _ _ _ h => h) (by assumption) (by rfl) ?_ ?_; rotate_left; (focus (intro w hSw; obtain ⟨_, hS1, hS2, hS3, hS4, hS5, hS6, hS7, hS8, hS9⟩ := AccB.cells hSw; go_simp <;> with_reducible rfl)))
    | refine held_pass 5 11 rfl rfl (by kernel_rfl) (by kernel_rfl) (by kernel_rfl) (fun _ _ _ h => h) (by assumption) (by rfl) ?_
  simp only [Act.put, List.setIfInBounds_toArray, List.set_cons_zero, List.set_cons_succ]
  first
    | (refine held_take 6 12 (v := ?_) rfl rfl (by kernel_rfl) (by kernel_rfl) (by kernel_rfl) (fun _ _ _ h => h) (by assumption) (by rfl) ?_ ?_; rotate_left; (focus (intro w hSw; obtain ⟨_, hS1, hS2, hS3, hS4, hS5, hS6, hS7, hS8, hS9⟩ := AccB.cells hSw; go_simp <;> with_reducible rfl)))
    | refine held_pass 6 12 rfl rfl (by kernel_rfl) (by kernel_rfl) (by kernel_rfl) (fun _ _ _ h => h) (by assumption) (by rfl) ?_
  simp only [Act.put, List.setIfInBounds_toArray, List.set_cons_zero, List.set_cons_succ]
  first
    | (refine held_take 7 13 (v := ?_) rfl rfl (by kernel_rfl) (by kernel_rfl) (by kernel_rfl) (fun _ _ _ h => h) (by assumption) (by rfl) ?_ ?_; rotate_left; (focus (intro w hSw; obtain ⟨_, hS1, hS2, hS3, hS4, hS5, hS6, hS7, hS8, hS9⟩ := AccB.cells hSw; go_simp <;> with_reducible rfl)))
    | refine held_pass 7 13 rfl rfl (by kernel_rfl) (by kernel_rfl) (by kernel_rfl) (fun _ _ _ h => h) (by assumption) (by rfl) ?_
  simp only [Act.put, List.setIfInBounds_toArray, List.set_cons_zero, List.set_cons_succ]
  first
    | (refine held_take 8 14 (v := ?_) rfl rfl (by kernel_rfl) (by kernel_rfl) (by kernel_rfl) (fun _ _ _ h => h) (by assumption) (by rfl) ?_ ?_; rotate_left; (focus (intro w hSw; obtain ⟨_, hS1, hS2, hS3, hS4, hS5, hS6, hS7, hS8, hS9⟩ := AccB.cells hSw; go_simp <;> with_reducible rfl)))
    | refine held_pass 8 14 rfl rfl (by kernel_rfl) (by kernel_rfl) (by kernel_rfl) (fun _ _ _ h => h) (by assumption) (by rfl) ?_
  simp only [Act.put, List.setIfInBounds_toArray, List.set_cons_zero, List.set_cons_succ]
  first
    | (refine held_take 9 15 (v := ?_) rfl rfl (by kernel_rfl) (by kernel_rfl) (by kernel_rfl) (fun _ _ _ h => h) (by assumption) (by rfl) ?_ ?_; rotate_left; (focus (intro w hSw; obtain ⟨_, hS1, hS2, hS3, hS4, hS5, hS6, hS7, hS8, hS9⟩ := AccB.cells hSw; go_simp <;> with_reducible rfl)))
    | refine held_pass 9 15 rfl rfl (by kernel_rfl) (by kernel_rfl) (by kernel_rfl) (fun _ _ _ h => h) (by assumption) (by rfl) ?_
  simp only [Act.put, List.setIfInBounds_toArray, List.set_cons_zero, List.set_cons_succ]
  first
    | (refine held_take 11 17 (v := ?_) rfl rfl (by kernel_rfl) (by kernel_rfl) (by kernel_rfl) (fun _ _ _ h => h) (by assumption) (by rfl) ?_ ?_; rotate_left; (focus (intro w hSw; obtain ⟨_, hS1, hS2, hS3, hS4, hS5, hS6, hS7, hS8, hS9⟩ := AccB.cells hSw; go_simp <;> with_reducible rfl)))
    | refine held_pass 11 17 rfl rfl (by kernel_rfl) (by kernel_rfl) (by kernel_rfl) (fun _ _ _ h => h) (by assumption) (by rfl) ?_
  simp only [Act.put, List.setIfInBounds_toArray, List.set_cons_zero, List.set_cons_succ]
  first
    | (refine held_take 12 18 (v := ?_) rfl rfl (by kernel_rfl) (by kernel_rfl) (by kernel_rfl) (fun _ _ _ h => h) (by assumption) (by rfl) ?_ ?_; rotate_left; (focus (intro w hSw; obtain ⟨_, hS1, hS2, hS3, hS4, hS5, hS6, hS7, hS8, hS9⟩ := AccB.cells hSw; go_simp <;> with_reducible rfl)))
    | refine held_pass 12 18 rfl rfl (by kernel_rfl) (by kernel_rfl) (by kernel_rfl) (fun _ _ _ h => h) (by assumption) (by rfl) ?_
  simp only [Act.put, List.setIfInBounds_toArray, List.set_cons_zero, List.set_cons_succ]
  first
    | (refine held_take 13 19 (v := ?_) rfl rfl (by kernel_rfl) (by kernel_rfl) (by kernel_rfl) (fun _ _ _ h => h) (by assumption) (by rfl) ?_ ?_; rotate_left; (focus (intro w hSw; obtain ⟨_, hS1, hS2, hS3, hS4, hS5, hS6, hS7, hS8, hS9⟩ := AccB.cells hSw; go_simp <;> with_reducible rfl)))
    | refine held_pass 13 19 rfl rfl (by kernel_rfl) (by kernel_rfl) (by kernel_rfl) (fun _ _ _ h => h) (by assumption) (by rfl) ?_
  simp only [Act.put, List.setIfInBounds_toArray, List.set_cons_zero, List.set_cons_succ]
  first
    | (refine held_take 14 20 (v := ?_) rfl rfl (by kernel_rfl) (by kernel_rfl) (by kernel_rfl) (fun _ _ _ h => h) (by assumption) (by rfl) ?_ ?_; rotate_left; (focus (intro w hSw; obtain ⟨_, hS1, hS2, hS3, hS4, hS5, hS6, hS7, hS8, hS9⟩ := AccB.cells hSw; go_simp <;> with_reducible rfl)))
    | refine held_pass 14 20 rfl rfl (by kernel_rfl) (by kernel_rfl) (by kernel_rfl) (fun _ _ _ h => h) (by assumption) (by rfl) ?_
  simp only [Act.put, List.setIfInBounds_toArray, List.set_cons_zero, List.set_cons_succ]
  first
    | (refine held_take 15 21 (v := ?_) rfl rfl (by kernel_rfl) (by kernel_rfl) (by kernel_rfl) (fun _ _ _ h => h) (by assumption) (by rfl) ?_ ?_; rotate_left; (focus (intro w hSw; obtain ⟨_, hS1, hS2, hS3, hS4, hS5, hS6, hS7, hS8, hS9⟩ := AccB.cells hSw; go_simp <;> with_reducible rfl)))
    | refine held_pass 15 21 rfl rfl (by kernel_rfl) (by kernel_rfl) (by kernel_rfl) (fun _ _ _ h => h) (by assumption) (by rfl) ?_
  simp only [Act.put, List.setIfInBounds_toArray, List.set_cons_zero, List.set_cons_succ]
  refine held_call 4 10 rfl rfl (by kernel_rfl) (by rfl) (fun K hK => ?_)
  simp only [Go.wp_at_succ, Go.wp_at_zero]
  go_simp
  refine (HPC.out _ HB0.out).mono ?_
  rintro e u1 ⟨b1, rfl, H1⟩
  have HB1 := Lib.hid (HB0.out.trans (H1.out.2.2.mono HB0.out.size))
  first | (with_reducible refine hK.out _ _ ?_ (fun hHeld => ?_)) | (go_wp2_with fail; refine hK.out _ _ ?_ (fun hHeld => ?_))
  · exact HS.out _ HB1.out
  clear hK K
  try simp only [Act.put, List.setIfInBounds_toArray, List.set_cons_zero, List.set_cons_succ]
  refine held_call 10 16 rfl rfl (by kernel_rfl) (by rfl) (fun K hK => ?_)
  simp only [Go.wp_at_succ, Go.wp_at_zero]
  go_simp
  refine (HPB.out _ HB1.out).mono ?_
  rintro e u2 ⟨b2, rfl, H2⟩
  have HB2 := Lib.hid (HB1.out.trans (H2.out.2.2.mono HB1.out.size))
  first | (with_reducible refine hK.out _ _ ?_ (fun hHeld => ?_)) | (go_wp2_with fail; refine hK.out _ _ ?_ (fun hHeld => ?_))
  · exact HS.out _ HB2.out
  clear hK K
  try simp only [Act.put, List.setIfInBounds_toArray, List.set_cons_zero, List.set_cons_succ]
  refine held_call 16 22 rfl rfl (by kernel_rfl) (by rfl) (fun K hK => ?_)
  simp only [Go.wp_at_succ, Go.wp_at_zero]
  go_simp
  refine (HPY.out _ HB2.out).mono ?_
  rintro e u3 ⟨b3, rfl, H3⟩
  have HB3 := Lib.hid (HB2.out.trans (H3.out.2.2.mono HB2.out.size))
  first | (with_reducible refine hK.out _ _ ?_ (fun hHeld => ?_)) | (go_wp2_with fail; refine hK.out _ _ ?_ (fun hHeld => ?_))
  · exact HS.out _ HB3.out
  clear hK K
  try simp only [Act.put, List.setIfInBounds_toArray, List.set_cons_zero, List.set_cons_succ]
  refine held_call 17 23 rfl rfl (by kernel_rfl) (by rfl) (fun K hK => ?_)
  simp only [Go.wp_at_succ, Go.wp_at_zero]
  go_simp
  
  first | (with_reducible refine hK.out _ _ ?_ (fun hHeld => ?_)) | (go_wp2_with fail; refine hK.out _ _ ?_ (fun hHeld => ?_))
  · exact HS.out _ (HB3.out.alloc HB3.out.size _)
  clear hK K
  try simp only [Act.put, List.setIfInBounds_toArray, List.set_cons_zero, List.set_cons_succ]
  refine held_call 18 24 rfl rfl (by kernel_rfl) (by rfl) (fun K hK => ?_)
  simp only [Go.wp_at_succ, Go.wp_at_zero]
  go_simp
  refine (HPUT.out u3 b1 b2 b3 HB3.out ?n1 ?n2 H3.out.1 H1.out.2.1 H2.out.2.1 H3.out.2.1).mono ?_
  case n1 => have k := H1.out.1.keep H2.out.2.2 H1.out.1.lt; exact k.keep H3.out.2.2 k.lt
  case n2 => exact H2.out.1.keep H3.out.2.2 H2.out.1.lt
  rintro e w5 ⟨rfl, H5⟩
  first | (with_reducible refine hK.out _ _ ?_ (fun hHeld => ?_)) | (go_wp2_with fail; refine hK.out _ _ ?_ (fun hHeld => ?_))
  · exact HSU.out _ H5.out.2.1
  clear hK K
  try simp only [Act.put, List.setIfInBounds_toArray, List.set_cons_zero, List.set_cons_succ]
  refine wpAnyH_done (by kernel_rfl) ?_ _
  clear HPC HPB HPY HPUT HS H1 H2 H3 HB1 HB2 HB3 hHeld
  have AU := Lib.hid (HSU.out _ H5.out.2.1)
  obtain ⟨_, _, _, _, _, _, _, c7, _, _⟩ := AU.out.cells
  obtain ⟨hx, hhx⟩ : ∃ b, b = s.v.has := ⟨_, rfl⟩
  rw [← hhx] at c7
  cases hx with
  | false =>
    have hbs : Hid (s.bytes = s.head) := by show _ = _; rw [AccV.bytes, VoteV.bytes, ← hhx]; simp
    have HWB := Lib.hid (wbytes_any g s.head w5 H5.out.1 (by rw [← hbs.out]; omega))
    clear hhx
    go_wp2_with fail
    refine HWB.out.mono ?_
    rintro e w6 ⟨v', rfl, O6, B6⟩
    have O6' := Lib.hid O6
    obtain ⟨a6, k6, rfl⟩ := own_shape O6
    clear O6
    go_wp2
    go_returns
    have hs5 := H5.out.2.2.size
    rw [hbs.out]
    exact ⟨_, rfl, own_base O6'.out (by have := HG.out; have := H5.out.2.1.size; have := HSW.out; omega), (HG.out ▸ H5.out.2.2).trans (B6.mono (by have := HG.out; have := H5.out.2.1.size; have := HSW.out; omega))⟩
  | true =>
    have hr2 := mayV_yes.1 HOK.out.a
    have har : s.v.ar = ((s.v.ar.toNat : Nat) : Int) := by omega
    have han : s.v.an = ((s.v.an.toNat : Nat) : Int) := by omega
    have hmc := (HOK.out.yes hhx.symm).2.1
    have lc := chainText_len hmc
    have lb2 := bal_len HOK.out.a
    have lh := HOK.out.hlen
    have hs5 : W.heap.size ≤ w5.heap.size := H5.out.2.1.size
    have hbs : Hid (s.bytes = s.head ++ (balBytes s.v.ar.toNat s.v.an.toNat ++ chainText s.v.ce s.v.C)) := by show _ = _; rw [AccV.bytes, VoteV.bytes, ← hhx]; simp
    have HPB : Hid (∀ u, Below w5.heap.size w5 u → Calls Try.prog 39 #[.agg #[.int .i64 s.v.ar, .int .i64 s.v.an]] u fun e w' => ∃ b, e = .returned (.func (.func 66) #[] #[.pointer (some ⟨b, 0, none⟩)]) ∧ Hid (BalB w' b s.v.ar s.v.an ∧ w5.heap.size ≤ b ∧ Below u.heap.size u w')) := fun u hu => (aballotpart_any s.v.ar s.v.an u).mono fun e w' ⟨he, hw⟩ => by
      subst hw; exact ⟨_, he, BalB.fresh u _ _, hu.size, (Below.refl _ u).alloc (Nat.le_refl _) _⟩
    have HPC : Hid (∀ u, Below w5.heap.size w5 u → Calls Try.prog 38 #[.agg #[.int .i64 s.v.ce, .slice ca s.v.C.length cc]] u fun e w' => ∃ b, e = .returned (.func (.func 63) #[] #[.pointer (some ⟨b, 0, none⟩)]) ∧ Hid (ChT w' b s.v.ce (.slice ca s.v.C.length cc) ∧ w5.heap.size ≤ b ∧ Below u.heap.size u w')) := fun u hu => (achainpart_any s.v.ce ca _ cc u).mono fun e w' ⟨he, hw⟩ => by
      subst hw; exact ⟨_, he, ChT.fresh u _ _, hu.size, (Below.refl _ u).alloc (Nat.le_refl _) _⟩
    have HPUT : Hid (∀ u b1 b2, Below w5.heap.size w5 u → BalB u b1 s.v.ar s.v.an → ChT u b2 s.v.ce (.slice ca s.v.C.length cc) → w5.heap.size ≤ b1 → w5.heap.size ≤ b2 →
        Calls Try.prog 37 #[.pointer (some ⟨g, 0, none⟩), .slice (some ⟨u.heap.size, 0, none⟩) 2 2] (u.alloc (.cells #[.func (.func 66) #[] #[.pointer (some ⟨b1, 0, none⟩)], .func (.func 63) #[] #[.pointer (some ⟨b2, 0, none⟩)]] 76)) fun e w' => e = .returned (.tuple #[]) ∧ Hid (Wrt w' g s.bytes ∧ KeepU g w5 w' ∧ Below g w w')) := fun u b1 b2 hu h1 h2 n1 n2 => by
      have hua : Below u.heap.size u (u.alloc (.cells #[.func (.func 66) #[] #[.pointer (some ⟨b1, 0, none⟩)], .func (.func 63) #[] #[.pointer (some ⟨b2, 0, none⟩)]] 76)) := (Below.refl _ u).alloc (Nat.le_refl _) _
      have hsu := hu.size
      have hgs := HSW.out
      have hwu : Wrt (u.alloc (.cells #[.func (.func 66) #[] #[.pointer (some ⟨b1, 0, none⟩)], .func (.func 63) #[] #[.pointer (some ⟨b2, 0, none⟩)]] 76)) g s.head := (H5.out.1.below hu).alloc _
      have hBg : Below g w (u.alloc (.cells #[.func (.func 66) #[] #[.pointer (some ⟨b1, 0, none⟩)], .func (.func 63) #[] #[.pointer (some ⟨b2, 0, none⟩)]] 76)) := H5.out.2.2.trans ((hu.trans (hua.mono hsu)).mono (by omega))
      refine (aput_r 2 g u.heap.size #[.func (.func 66) #[] #[.pointer (some ⟨b1, 0, none⟩)], .func (.func 63) #[] #[.pointer (some ⟨b2, 0, none⟩)]] (fun j => if j = 0 then 66 else 63) (fun j => if j = 0 then b1 else b2) (fun j => if j = 0 then balBytes s.v.ar.toNat s.v.an.toNat else chainText s.v.ce s.v.C) s.head _ (by omega) hwu (by omega) (heap_alloc_new u _) (by omega) ?_ ?_ ?_ ?_).mono fun e w' ⟨he, q1, q2, q3⟩ => ⟨he, ?_, (KeepU.of (hu.trans (hua.mono hsu))).trans q3, hBg.trans q2⟩
      · intro j hj
        match j, hj with
        | 0, _ => rfl
        | 1, _ => rfl
      · intro j
        split <;> omega
      · intro j hj
        match j, hj with
        | 0, _ => exact enters_b
        | 1, _ => exact enters_c
      · intro j hj
        match j, hj with
        | 0, _ =>
          rw [har, han] at h1
          show PartK _ g 66 b1 (balBytes s.v.ar.toNat s.v.an.toNat)
          exact partB (h1.keep hua h1.lt) (by omega) (by omega) (by omega)
        | 1, _ =>
          show PartK _ g 63 b2 (chainText s.v.ce s.v.C)
          exact partC (h2.keep hua h2.lt) ((HA.out.c.ints.mono (by have := HG.out; omega)).keep hBg) (Nat.le_refl _) hmc (by omega)
      · have e1 : s.head ++ flatB (fun j => if j = 0 then balBytes s.v.ar.toNat s.v.an.toNat else chainText s.v.ce s.v.C) 2 = s.bytes := by
          rw [hbs.out, flatB_succ, flatB_succ]
          simp [flatB]
        rw [← e1]
        exact q1
    have HS : Hid (∀ u, Below w5.heap.size w5 u → AccB 63 u p (.slice ka s.K.length kc) (.slice ca s.v.C.length cc) s) := fun u hu => AU.out.on hu
    have HSU2 : Hid (∀ u, KeepU g w5 u → AccB 63 u p (.slice ka s.K.length kc) (.slice ca s.v.C.length cc) s) := fun u hu => hu.cells AU.out (by have := HA.out.b.lt; have := HG.out; omega) (by decide)
    clear hhx hr2 har han hmc lc lb2 lh
    go_wp2_with fail
    have b0 := (Below.drew (Below.refl w5.heap.size w5))
    have HB0b := Lib.hid b0
    clear b0
    refine wp_region_held_drew (S := (fun u => AccB 63 u p (.slice ka s.K.length kc) (.slice ca s.v.C.length cc) s)) (by kernel_rfl) (HS.out _ HB0b.out) (fun hHeld => ?_)
    first
      | (refine held_take 0 30 (v := ?_) rfl rfl (by kernel_rfl) (by kernel_rfl) (by kernel_rfl) (fun _ _ _ h => h) (by assumption) (by rfl) ?_ ?_; rotate_left; (focus (intro w hSw; obtain ⟨_, hS1, hS2, hS3, hS4, hS5, hS6, hS7, hS8, hS9⟩ := AccB.cells hSw; go_simp <;> with_reducible rfl)))
      | refine held_pass 0 30 rfl rfl (by kernel_rfl) (by kernel_rfl) (by kernel_rfl) (fun _ _ _ h => h) (by assumption) (by rfl) ?_
    simp only [Act.put, List.setIfInBounds_toArray, List.set_cons_zero, List.set_cons_succ]
    first
      | (refine held_take 1 31 (v := ?_) rfl rfl (by kernel_rfl) (by kernel_rfl) (by kernel_rfl) (fun _ _ _ h => h) (by assumption) (by rfl) ?_ ?_; rotate_left; (focus (intro w hSw; obtain ⟨_, hS1, hS2, hS3, hS4, hS5, hS6, hS7, hS8, hS9⟩ := AccB.cells hSw; go_simp <;> with_reducible rfl)))
      | refine held_pass 1 31 rfl rfl (by kernel_rfl) (by kernel_rfl) (by kernel_rfl) (fun _ _ _ h => h) (by assumption) (by rfl) ?_
    simp only [Act.put, List.setIfInBounds_toArray, List.set_cons_zero, List.set_cons_succ]
    first
      | (refine held_take 2 32 (v := ?_) rfl rfl (by kernel_rfl) (by kernel_rfl) (by kernel_rfl) (fun _ _ _ h => h) (by assumption) (by rfl) ?_ ?_; rotate_left; (focus (intro w hSw; obtain ⟨_, hS1, hS2, hS3, hS4, hS5, hS6, hS7, hS8, hS9⟩ := AccB.cells hSw; go_simp <;> with_reducible rfl)))
      | refine held_pass 2 32 rfl rfl (by kernel_rfl) (by kernel_rfl) (by kernel_rfl) (fun _ _ _ h => h) (by assumption) (by rfl) ?_
    simp only [Act.put, List.setIfInBounds_toArray, List.set_cons_zero, List.set_cons_succ]
    first
      | (refine held_take 3 33 (v := ?_) rfl rfl (by kernel_rfl) (by kernel_rfl) (by kernel_rfl) (fun _ _ _ h => h) (by assumption) (by rfl) ?_ ?_; rotate_left; (focus (intro w hSw; obtain ⟨_, hS1, hS2, hS3, hS4, hS5, hS6, hS7, hS8, hS9⟩ := AccB.cells hSw; go_simp <;> with_reducible rfl)))
      | refine held_pass 3 33 rfl rfl (by kernel_rfl) (by kernel_rfl) (by kernel_rfl) (fun _ _ _ h => h) (by assumption) (by rfl) ?_
    simp only [Act.put, List.setIfInBounds_toArray, List.set_cons_zero, List.set_cons_succ]
    first
      | (refine held_take 4 34 (v := ?_) rfl rfl (by kernel_rfl) (by kernel_rfl) (by kernel_rfl) (fun _ _ _ h => h) (by assumption) (by rfl) ?_ ?_; rotate_left; (focus (intro w hSw; obtain ⟨_, hS1, hS2, hS3, hS4, hS5, hS6, hS7, hS8, hS9⟩ := AccB.cells hSw; go_simp <;> with_reducible rfl)))
      | refine held_pass 4 34 rfl rfl (by kernel_rfl) (by kernel_rfl) (by kernel_rfl) (fun _ _ _ h => h) (by assumption) (by rfl) ?_
    simp only [Act.put, List.setIfInBounds_toArray, List.set_cons_zero, List.set_cons_succ]
    first
      | (refine held_take 6 36 (v := ?_) rfl rfl (by kernel_rfl) (by kernel_rfl) (by kernel_rfl) (fun _ _ _ h => h) (by assumption) (by rfl) ?_ ?_; rotate_left; (focus (intro w hSw; obtain ⟨_, hS1, hS2, hS3, hS4, hS5, hS6, hS7, hS8, hS9⟩ := AccB.cells hSw; go_simp <;> with_reducible rfl)))
      | refine held_pass 6 36 rfl rfl (by kernel_rfl) (by kernel_rfl) (by kernel_rfl) (fun _ _ _ h => h) (by assumption) (by rfl) ?_
    simp only [Act.put, List.setIfInBounds_toArray, List.set_cons_zero, List.set_cons_succ]
    first
      | (refine held_take 7 37 (v := ?_) rfl rfl (by kernel_rfl) (by kernel_rfl) (by kernel_rfl) (fun _ _ _ h => h) (by assumption) (by rfl) ?_ ?_; rotate_left; (focus (intro w hSw; obtain ⟨_, hS1, hS2, hS3, hS4, hS5, hS6, hS7, hS8, hS9⟩ := AccB.cells hSw; go_simp <;> with_reducible rfl)))
      | refine held_pass 7 37 rfl rfl (by kernel_rfl) (by kernel_rfl) (by kernel_rfl) (fun _ _ _ h => h) (by assumption) (by rfl) ?_
    simp only [Act.put, List.setIfInBounds_toArray, List.set_cons_zero, List.set_cons_succ]
    first
      | (refine held_take 8 38 (v := ?_) rfl rfl (by kernel_rfl) (by kernel_rfl) (by kernel_rfl) (fun _ _ _ h => h) (by assumption) (by rfl) ?_ ?_; rotate_left; (focus (intro w hSw; obtain ⟨_, hS1, hS2, hS3, hS4, hS5, hS6, hS7, hS8, hS9⟩ := AccB.cells hSw; go_simp <;> with_reducible rfl)))
      | refine held_pass 8 38 rfl rfl (by kernel_rfl) (by kernel_rfl) (by kernel_rfl) (fun _ _ _ h => h) (by assumption) (by rfl) ?_
    simp only [Act.put, List.setIfInBounds_toArray, List.set_cons_zero, List.set_cons_succ]
    first
      | (refine held_take 9 39 (v := ?_) rfl rfl (by kernel_rfl) (by kernel_rfl) (by kernel_rfl) (fun _ _ _ h => h) (by assumption) (by rfl) ?_ ?_; rotate_left; (focus (intro w hSw; obtain ⟨_, hS1, hS2, hS3, hS4, hS5, hS6, hS7, hS8, hS9⟩ := AccB.cells hSw; go_simp <;> with_reducible rfl)))
      | refine held_pass 9 39 rfl rfl (by kernel_rfl) (by kernel_rfl) (by kernel_rfl) (fun _ _ _ h => h) (by assumption) (by rfl) ?_
    simp only [Act.put, List.setIfInBounds_toArray, List.set_cons_zero, List.set_cons_succ]
    first
      | (refine held_take 10 40 (v := ?_) rfl rfl (by kernel_rfl) (by kernel_rfl) (by kernel_rfl) (fun _ _ _ h => h) (by assumption) (by rfl) ?_ ?_; rotate_left; (focus (intro w hSw; obtain ⟨_, hS1, hS2, hS3, hS4, hS5, hS6, hS7, hS8, hS9⟩ := AccB.cells hSw; go_simp <;> with_reducible rfl)))
      | refine held_pass 10 40 rfl rfl (by kernel_rfl) (by kernel_rfl) (by kernel_rfl) (fun _ _ _ h => h) (by assumption) (by rfl) ?_
    simp only [Act.put, List.setIfInBounds_toArray, List.set_cons_zero, List.set_cons_succ]
    refine held_call 5 35 rfl rfl (by kernel_rfl) (by rfl) (fun K hK => ?_)
    simp only [Go.wp_at_succ, Go.wp_at_zero]
    go_simp
    refine (HPB.out _ HB0b.out).mono ?_
    rintro e u1 ⟨b1, rfl, H1⟩
    have HB1 := Lib.hid (HB0b.out.trans (H1.out.2.2.mono HB0b.out.size))
    first | (with_reducible refine hK.out _ _ ?_ (fun hHeld => ?_)) | (go_wp2_with fail; refine hK.out _ _ ?_ (fun hHeld => ?_))
    · exact HS.out _ HB1.out
    clear hK K
    try simp only [Act.put, List.setIfInBounds_toArray, List.set_cons_zero, List.set_cons_succ]
    refine held_call 11 41 rfl rfl (by kernel_rfl) (by rfl) (fun K hK => ?_)
    simp only [Go.wp_at_succ, Go.wp_at_zero]
    go_simp
    refine (HPC.out _ HB1.out).mono ?_
    rintro e u2 ⟨b2, rfl, H2⟩
    have HB2 := Lib.hid (HB1.out.trans (H2.out.2.2.mono HB1.out.size))
    first | (with_reducible refine hK.out _ _ ?_ (fun hHeld => ?_)) | (go_wp2_with fail; refine hK.out _ _ ?_ (fun hHeld => ?_))
    · exact HS.out _ HB2.out
    clear hK K
    try simp only [Act.put, List.setIfInBounds_toArray, List.set_cons_zero, List.set_cons_succ]
    refine held_call 12 42 rfl rfl (by kernel_rfl) (by rfl) (fun K hK => ?_)
    simp only [Go.wp_at_succ, Go.wp_at_zero]
    go_simp
    
    first | (with_reducible refine hK.out _ _ ?_ (fun hHeld => ?_)) | (go_wp2_with fail; refine hK.out _ _ ?_ (fun hHeld => ?_))
    · exact HS.out _ (HB2.out.alloc HB2.out.size _)
    clear hK K
    try simp only [Act.put, List.setIfInBounds_toArray, List.set_cons_zero, List.set_cons_succ]
    refine held_call 13 43 rfl rfl (by kernel_rfl) (by rfl) (fun K hK => ?_)
    simp only [Go.wp_at_succ, Go.wp_at_zero]
    go_simp
    refine (HPUT.out u2 b1 b2 HB2.out ?n1 H2.out.1 H1.out.2.1 H2.out.2.1).mono ?_
    case n1 => exact H1.out.1.keep H2.out.2.2 H1.out.1.lt
    rintro e w8 ⟨rfl, H8⟩
    first | (with_reducible refine hK.out _ _ ?_ (fun hHeld => ?_)) | (go_wp2_with fail; refine hK.out _ _ ?_ (fun hHeld => ?_))
    · exact HSU2.out _ H8.out.2.1
    clear hK K
    try simp only [Act.put, List.setIfInBounds_toArray, List.set_cons_zero, List.set_cons_succ]
    refine wpAnyH_done (by kernel_rfl) ?_ _
    clear HPC HPB HPUT HS H1 H2 HB1 HB2 hHeld
    have HWB := Lib.hid (wbytes_any g s.bytes w8 H8.out.1 (by omega))
    go_wp2_with fail
    refine HWB.out.mono ?_
    rintro e w9 ⟨v', rfl, O9, B9⟩
    have O9' := Lib.hid O9
    obtain ⟨a9, k9, rfl⟩ := own_shape O9
    clear O9
    go_wp2
    go_returns
    exact ⟨_, rfl, own_base O9'.out (by have := HG.out; have := H8.out.2.1.size; have := HSW.out; omega), (HG.out ▸ H8.out.2.2).trans (B9.mono (by have := HG.out; have := H8.out.2.1.size; have := HSW.out; omega))⟩

end Go.Proofs.Ytaaffceanjpmbaa
