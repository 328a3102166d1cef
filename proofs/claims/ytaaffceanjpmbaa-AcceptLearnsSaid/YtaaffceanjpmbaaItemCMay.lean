/-
  THE PROGRAM's MayChain AND PutChain. No condition but that the chain can be read, and lengths.
-/
import Derived.Test.YtaaffceanjpmbaaItemCV
import Derived.Test.YtaaffceanjpmbaaItemPut
namespace Go.Proofs.Ytaaffceanjpmbaa
open Go.RowKit

/-- Block b holds a chain. -/
def ChB (w : World) (b : Nat) (ep : Int) (v : Value) : Prop := ∃ e, w.heap[b]? = some (.cells #[.int .i64 ep, v] e (0, 0))
theorem ChB.cells {w : World} {b : Nat} {ep : Int} {v : Value} (h : ChB w b ep v) : w.cell? ⟨b, 0, none⟩ = some (.int .i64 ep) ∧ w.cell? ⟨b, 1, none⟩ = some v := by
  obtain ⟨e, h⟩ := h
  exact ⟨cell_of_two0 h, cell_of_two1 h⟩
theorem ChB.free {w : World} {b : Nat} {ep : Int} {v : Value} (h : ChB w b ep v) (o : Nat) : w.frozen? ⟨b, o, none⟩ = false := by
  obtain ⟨e, h⟩ := h
  exact free_of_two h o
theorem ChB.lt {w : World} {b : Nat} {ep : Int} {v : Value} (h : ChB w b ep v) : b < w.heap.size := by
  obtain ⟨_, h⟩ := h
  exact lt_of_block h
theorem ChB.keep {w w' : World} {b B : Nat} {ep : Int} {v : Value} (h : ChB w b ep v) (hb : Below B w w') (hB : b < B) : ChB w' b ep v := by
  obtain ⟨e, h⟩ := h
  exact ⟨e, (hb.block b hB).trans h⟩
theorem ChB.fresh (w : World) (ep : Int) (v : Value) (e : TypeId) : ChB (w.alloc (.cells #[.int .i64 ep, v] e)) w.heap.size ep v := ⟨e, heap_alloc_new w _⟩

set_option maxHeartbeats 2000000 in
set_option maxRecDepth 100000 in
theorem maychain_r (ep : Int) (v : Value) (L : List Int) (B : Nat) (w : World) (hI : Ints w B v L) (hBw : B ≤ w.heap.size) (R : Bool) (HR : Hid (R = decide (ChainV.may ⟨ep, L⟩))) :
    Calls Try.prog 35 #[.agg #[.int .i64 ep, v]] w fun e w' => e = .returned (.bool R) ∧ Below w.heap.size w w' := by
  obtain ⟨ao, cap, rfl, h1, h2, h3, h4⟩ := hI
  obtain ⟨n, hn⟩ : ∃ n, L.length = n := ⟨_, rfl⟩
  have hmay : ChainV.may ⟨ep, L⟩ ↔ 0 ≤ ep ∧ ep ≤ 1073741824 ∧ 1 ≤ n ∧ n ≤ 5 ∧ nodesOk L := by unfold ChainV.may; simp only; rw [hn]
  rw [hn] at h1 h4 ⊢
  by_cases he : 0 ≤ ep ∧ ep ≤ 1073741824
  case neg =>
    have hr : R = false := by rw [HR.out]; exact decide_eq_false (by rw [hmay]; rintro ⟨a, b, _⟩; exact he ⟨a, b⟩)
    subst hr
    have W0 := Lib.hid (fun u => within_no ep 0 1073741824 u (by omega))
    clear he HR h4 hmay
    go_enter Try.func35, Try.ntmps35
    go_wp2_with fail
    refine (W0.out _).mono ?_
    rintro e w1 ⟨rfl, rfl⟩
    go_wp2
    go_returns
    exact ⟨rfl, by first | exact (Below.refl _ _).alloc (Nat.le_refl _) _ | go_grown⟩
  have W0 := Lib.hid (fun u => within_yes ep 0 1073741824 u he.1 he.2)
  by_cases hl : 1 ≤ (n : Int) ∧ (n : Int) ≤ 5
  case neg =>
    have hr : R = false := by rw [HR.out]; exact decide_eq_false (by rw [hmay]; rintro ⟨_, _, a, b, _⟩; exact hl ⟨by omega, by omega⟩)
    subst hr
    have W1 := Lib.hid (fun u => within_no (n : Int) 1 5 u (by omega))
    clear he HR h4 hl hmay
    go_enter Try.func35, Try.ntmps35
    go_wp2_with fail
    refine (W0.out _).mono ?_
    rintro e w1 ⟨rfl, rfl⟩
    go_wp2_with fail
    refine (W1.out _).mono ?_
    rintro e w1 ⟨rfl, rfl⟩
    go_wp2
    go_returns
    exact ⟨rfl, by first | exact (Below.refl _ _).alloc (Nat.le_refl _) _ | go_grown⟩
  have W1 := Lib.hid (fun u => within_yes (n : Int) 1 5 u hl.1 hl.2)
  obtain ⟨b, off, rfl, hbB, hc⟩ := h4 (by intro h; rw [h] at hn; simp at hn; omega)
  have hr : R = decide (nodesOk L) := by
    rw [HR.out, decide_eq_decide, hmay]
    constructor
    · rintro ⟨_, _, _, _, h⟩; exact h
    · intro h; exact ⟨he.1, he.2, by omega, by omega, h⟩
  have WN : Hid (∀ o, Calls Try.prog 58 #[.slice (some ⟨b, off, none⟩) n cap] (w.alloc o) fun e w' => e = .returned (.bool R) ∧ Below (w.heap.size + 1) (w.alloc o) w') := by
    intro o
    have hbel : Below w.heap.size w (w.alloc o) := (Below.refl _ w).alloc (Nat.le_refl _) _
    have := maynodes_some b off n cap L (w.alloc o) hn (by omega) (by simp; omega) (fun j hj => (hbel.cell (p := ⟨b, off + j, none⟩) (show b < w.heap.size by omega)).trans (hc j hj))
    rw [hr]
    simpa using this
  clear he hl HR hr hc h4 hmay
  go_enter Try.func35, Try.ntmps35
  go_wp2_with fail
  refine (W0.out _).mono ?_
  rintro e w1 ⟨rfl, rfl⟩
  go_wp2_with fail
  refine (W1.out _).mono ?_
  rintro e w1 ⟨rfl, rfl⟩
  go_wp2_with fail
  refine (WN.out _).mono ?_
  rintro e w1 ⟨rfl, B1⟩
  have BF : Hid (Below w.heap.size w w1) := ((Below.refl _ w).alloc (Nat.le_refl _) _).trans (B1.mono (by omega))
  clear B1
  go_wp2
  go_returns
  exact ⟨rfl, BF.out⟩

/-- The bytes of a row of small numbers. -/
def nodeBytes (L : List Nat) : List UInt8 := L.flatMap Lib.uvarint
def chainBytes (ep : Nat) (L : List Nat) : List UInt8 := Lib.uvarint ep ++ (Lib.uvarint L.length ++ nodeBytes L)

theorem nodeBytes_take (L : List Nat) (k : Nat) (h : k < L.length) : nodeBytes (L.take (k + 1)) = nodeBytes (L.take k) ++ Lib.uvarint (L.getD k 0) := by
  unfold nodeBytes
  rw [List.take_succ_eq_append_getElem h, List.flatMap_append]
  simp [List.getD, h]
theorem nodeBytes_len (L : List Nat) (h : ∀ x ∈ L, x ≤ 9223372036854775807) : (nodeBytes L).length ≤ 10 * L.length := by
  induction L with
  | nil => simp [nodeBytes]
  | cons x r ih =>
    have h1 := Lib.uvarint_length64 (show x < 18446744073709551616 by have := h x (by simp); omega)
    have h2 := ih (fun y hy => h y (List.mem_cons_of_mem _ hy))
    simp only [nodeBytes, List.flatMap_cons, List.length_append, List.length_cons] at h2 ⊢
    omega

set_option maxHeartbeats 2000000 in
set_option maxRecDepth 100000 in
theorem putlist_any (g b off n cap : Nat) (fv : Value) (hfv : fv = .func (.func 84) #[] #[]) (L : List Nat) (xs : List UInt8) (w : World) (hn : L.length = n) (hm : n ≤ 1000) (hL : ∀ x ∈ L, x ≤ 9223372036854775807) (hbg : b < g) (hW : Wrt w g xs) (hxl : xs.length ≤ 1000000)
    (hc : ∀ j, j < n → w.cell? ⟨b, off + j, none⟩ = some (.int .i64 (L.getD j 0 : Nat))) :
    Calls Try.prog 85 #[.pointer (some ⟨g, 0, none⟩), .slice (some ⟨b, off, none⟩) n cap, fv] w fun e w' => e = .returned (.tuple #[]) ∧ Wrt w' g (xs ++ (Lib.uvarint L.length ++ nodeBytes L)) ∧ Below g w w' := by
  subst hfv
  have hu := Lib.uvarint_length64 (show n < 18446744073709551616 by omega)
  have H1 := Lib.hid (putint_any g n (by omega) xs w hW (by omega))
  have hbw := hW.lt
  have HC := Lib.hid hc
  have HN := Lib.hid hn
  have HL := Lib.hid hL
  clear hc hn hL hW
  go_enter Try.func85, Try.ntmps85
  go_wp2_with fail
  refine H1.out.mono ?_
  rintro e w1 ⟨rfl, W1, B1⟩
  go_wp2
  go_loopw [14] (fun vi wr => ∃ k : Nat, k ≤ n ∧ vi = .int .i64 k ∧ Wrt wr g (xs ++ Lib.uvarint n ++ nodeBytes (L.take k)) ∧ Below g w wr)
    (fun vi _ => n - (intOf vi).toNat)
  case atStart => exact ⟨0, by omega, rfl, by simpa [nodeBytes] using W1, B1⟩
  case round =>
    obtain ⟨k, hk, rfl, hW, hnx⟩ := hrel
    by_cases hlt : k < n
    · have hkl : k < L.length := by rw [HN.out]; exact hlt
      obtain ⟨x, hx⟩ : ∃ x, x = L.getD k 0 := ⟨_, rfl⟩
      have hcell : wr.cell? ⟨b, off + k, none⟩ = some (.int .i64 x) := by
        rw [hx, ← HC.out k hlt]
        exact hnx.cell (p := ⟨b, off + k, none⟩) hbg
      have hxm : x ≤ 9223372036854775807 := by
        rw [hx]
        refine HL.out _ ?_
        rw [show L.getD k 0 = L[k] by simp [List.getD, hkl]]
        exact List.getElem_mem hkl
      have HT : Hid (nodeBytes (L.take (k + 1)) = nodeBytes (L.take k) ++ Lib.uvarint x) := by show _ = _; rw [hx]; exact nodeBytes_take L k hkl
      have hlen := nodeBytes_len (L.take k) (fun y hy => HL.out y (List.mem_of_mem_take hy))
      rw [List.length_take] at hlen
      have H2 := Lib.hid (putint_any g x hxm _ wr hW (by simp only [List.length_append]; omega))
      clear hx hW hlen
      go_wp2_with fail
      refine H2.out.mono ?_
      rintro e w2 ⟨rfl, W2, B2⟩
      go_wp2
      go_roundw
      case rel => exact ⟨k + 1, by omega, by go_num, by rw [HT.out, ← List.append_assoc]; exact W2, hnx.trans B2⟩
      case measure => simp [intOf]; omega
    · have hkn : k = n := by omega
      rw [hkn, List.take_of_length_le (by rw [HN.out]; omega)] at hW
      clear hkn
      go_wp2
      go_end0
      exact ⟨rfl, by rw [HN.out, ← List.append_assoc]; exact hW, hnx⟩
end Go.Proofs.Ytaaffceanjpmbaa
