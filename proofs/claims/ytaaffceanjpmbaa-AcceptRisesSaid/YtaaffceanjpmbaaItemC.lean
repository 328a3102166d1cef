/-
  THE PROGRAM's ITEMS: chains, put and got. Merged by gen/cat.sh.
-/
import Derived.Test.YtaaffceanjpmbaaItemA
/-! ## ItemCV -/
/-
  A CHAIN AS PLAIN DATA: a slice of ints as a list; which chains may be. No condition.
-/
namespace Go.Proofs.Ytaaffceanjpmbaa
open Go.RowKit

/-- The slice value v holds the ints L, in a block below B. -/
def Ints (w : World) (B : Nat) (v : Value) (L : List Int) : Prop :=
  ∃ ao cap, v = .slice ao L.length cap ∧ L.length ≤ cap ∧ cap ≤ maxLen ∧ (ao = none → cap = 0) ∧
    (L ≠ [] → ∃ b off, ao = some ⟨b, off, none⟩ ∧ b < B ∧ ∀ j, j < L.length → w.cell? ⟨b, off + j, none⟩ = some (.int .i64 (L.getD j 0)))

theorem Ints.keep {w w' : World} {B : Nat} {v : Value} {L : List Int} (h : Ints w B v L) (hb : Below B w w') : Ints w' B v L := by
  obtain ⟨ao, cap, rfl, h1, h2, h3, h4⟩ := h
  refine ⟨ao, cap, rfl, h1, h2, h3, fun hl => ?_⟩
  obtain ⟨b, off, rfl, hbB, hc⟩ := h4 hl
  exact ⟨b, off, rfl, hbB, fun j hj => (hb.cell (p := ⟨b, off + j, none⟩) hbB).trans (hc j hj)⟩
theorem Ints.mono {w : World} {B B' : Nat} {v : Value} {L : List Int} (h : Ints w B v L) (hB : B ≤ B') : Ints w B' v L := by
  obtain ⟨ao, cap, rfl, h1, h2, h3, h4⟩ := h
  refine ⟨ao, cap, rfl, h1, h2, h3, fun hl => ?_⟩
  obtain ⟨b, off, rfl, hbB, hc⟩ := h4 hl
  exact ⟨b, off, rfl, by omega, hc⟩
theorem Ints.none (w : World) (B : Nat) : Ints w B (.slice none 0 0) [] := ⟨_, _, rfl, Nat.le_refl _, Nat.zero_le _, fun _ => rfl, fun h => absurd rfl h⟩

def intCells (L : List Int) : List Value := L.map fun n => .int .i64 n

theorem ints_own {w : World} {base B : Nat} {v : Value} {n : Nat} {L : List Int} (h : w.ownsRow base 3 1 v n (intCells L)) (hB : w.heap.size ≤ B) : Ints w B v L := by
  have hn : L.length = n := by have := h.1; simp [intCells] at this; omega
  subst hn
  rcases h.2 with ⟨rfl, h0⟩ | ⟨g, cap, cur, rfl, hg, hh, hle, hmax, hsz, htake⟩
  · have : L = [] := List.eq_nil_of_length_eq_zero (by simpa using h0)
    subst this
    exact Ints.none _ _
  · refine ⟨some ⟨g, 0, Option.none⟩, cap, rfl, hle, hmax, fun h => (by cases h), fun _ => ⟨g, 0, rfl, by have := lt_of_block hh; omega, fun j hj => ?_⟩⟩
    have hx : (intCells L)[j]? = some (.int .i64 (L.getD j 0)) := by simp [intCells, hj]
    have := h.cells (g := g) rfl j _ hx
    rwa [Addr.add_lit] at this

def nodesOk (L : List Int) : Prop := (∀ x ∈ L, 0 ≤ x ∧ x ≤ 4) ∧ L.Nodup
instance (L : List Int) : Decidable (nodesOk L) := by unfold nodesOk; infer_instance

theorem nodesOk_nil : nodesOk [] := ⟨by simp, List.nodup_nil⟩
theorem nodesOk_snoc (T : List Int) (x : Int) : nodesOk (T ++ [x]) ↔ nodesOk T ∧ 0 ≤ x ∧ x ≤ 4 ∧ x ∉ T := by
  unfold nodesOk
  rw [List.nodup_append]
  simp only [List.mem_append, List.mem_singleton]
  constructor
  · rintro ⟨h1, h2, _, h3⟩
    have := h1 x (.inr rfl)
    exact ⟨⟨fun y hy => h1 y (.inl hy), h2⟩, this.1, this.2, fun hx => h3 x hx x rfl rfl⟩
  · rintro ⟨⟨h1, h2⟩, h3, h4, h5⟩
    refine ⟨?_, h2, by simp, ?_⟩
    · rintro y (hy | rfl)
      · exact h1 y hy
      · exact ⟨h3, h4⟩
    · intro a ha b hb e
      subst hb
      subst e
      exact h5 ha
theorem take_snoc (L : List Int) (k : Nat) (h : k < L.length) : L.take (k + 1) = L.take k ++ [L.getD k 0] := by
  rw [List.take_succ_eq_append_getElem h]
  simp [List.getD, h]
theorem nodesOk_take {L : List Int} (h : nodesOk L) (k : Nat) : nodesOk (L.take k) :=
  ⟨fun x hx => h.1 x (List.mem_of_mem_take hx), h.2.sublist (List.take_sublist _ _)⟩

/-- The program's note of who was seen. -/
def seenCells (T : List Int) : Array Value := #[.bool (decide (0 ∈ T)), .bool (decide (1 ∈ T)), .bool (decide (2 ∈ T)), .bool (decide (3 ∈ T)), .bool (decide (4 ∈ T))]

structure ChainV where
  epoch : Int
  nodes : List Int

def ChainV.may (c : ChainV) : Prop := 0 ≤ c.epoch ∧ c.epoch ≤ 1073741824 ∧ 1 ≤ c.nodes.length ∧ c.nodes.length ≤ 5 ∧ nodesOk c.nodes
instance (c : ChainV) : Decidable c.may := by unfold ChainV.may; infer_instance

set_option maxHeartbeats 2000000 in
set_option maxRecDepth 100000 in
theorem maynodes_some (b off n cap : Nat) (L : List Int) (w : World) (hn : L.length = n) (hm : n ≤ 5) (hbw : b < w.heap.size) (hc : ∀ j, j < n → w.cell? ⟨b, off + j, none⟩ = some (.int .i64 (L.getD j 0))) :
    Calls Try.prog 58 #[.slice (some ⟨b, off, none⟩) n cap] w fun e w' => e = .returned (.bool (decide (nodesOk L))) ∧ Below w.heap.size w w' := by
  have HC := Lib.hid hc
  have HN := Lib.hid hn
  obtain ⟨R, hR⟩ : ∃ R, R = decide (nodesOk L) := ⟨_, rfl⟩
  rw [← hR]
  have HR := Lib.hid hR
  clear hc hn hR
  go_enter Try.func58, Try.ntmps58
  go_wp2
  go_loopw [8] (fun vi wr => ∃ k : Nat, k ≤ n ∧ vi = .int .i64 k ∧ nodesOk (L.take k) ∧ (∃ e, wr.heap[w.heap.size]? = some (.cells (seenCells (L.take k)) e (0, 0))) ∧ Below w.heap.size w wr)
    (fun vi _ => n - (intOf vi).toNat)
  case atStart =>
    exact ⟨0, by omega, rfl, nodesOk_nil, ⟨_, heap_alloc_new w _⟩, (Below.refl _ _).alloc (Nat.le_refl _) _⟩
  case round =>
    obtain ⟨k, hk, rfl, hok, ⟨e0, hb0⟩, hnx⟩ := hrel
    have HK := Lib.hid hok
    have H0 := Lib.hid hb0
    clear hok
    by_cases hlt : k < n
    · obtain ⟨x, hx⟩ : ∃ x, x = L.getD k 0 := ⟨_, rfl⟩
      have hcell : wr.cell? ⟨b, off + k, none⟩ = some (.int .i64 x) := by
        rw [hx, ← HC.out k hlt]
        exact hnx.cell (p := ⟨b, off + k, none⟩) hbw
      have HT : Hid (L.take (k + 1) = L.take k ++ [x]) := by show _ = _; rw [hx]; exact take_snoc L k (by rw [HN.out]; exact hlt)
      clear hx
      by_cases hin : 0 ≤ x ∧ x ≤ 4
      · obtain ⟨h1, h2⟩ := hin
        have W := Lib.hid (fun u => within_yes x 0 4 u h1 h2)
        by_cases hmem : x ∈ L.take k
        · have HF : Hid (R = false) := by
            show _ = _
            rw [HR.out]
            refine decide_eq_false fun h => ?_
            have := nodesOk_take h (k + 1)
            rw [HT.out, nodesOk_snoc] at this
            exact this.2.2.2 hmem
          rcases (show x = 0 ∨ x = 1 ∨ x = 2 ∨ x = 3 ∨ x = 4 by omega) with rfl | rfl | rfl | rfl | rfl
          case' inl => have s0 : wr.cell? ⟨w.heap.size, 0, none⟩ = some (.bool true) := by rw [cell_of_row wr _ 0 _ _ _ hb0, ← decide_eq_true hmem]; rfl
          case' inr.inl => have s0 : wr.cell? ⟨w.heap.size, 1, none⟩ = some (.bool true) := by rw [cell_of_row wr _ 1 _ _ _ hb0, ← decide_eq_true hmem]; rfl
          case' inr.inr.inl => have s0 : wr.cell? ⟨w.heap.size, 2, none⟩ = some (.bool true) := by rw [cell_of_row wr _ 2 _ _ _ hb0, ← decide_eq_true hmem]; rfl
          case' inr.inr.inr.inl => have s0 : wr.cell? ⟨w.heap.size, 3, none⟩ = some (.bool true) := by rw [cell_of_row wr _ 3 _ _ _ hb0, ← decide_eq_true hmem]; rfl
          case' inr.inr.inr.inr => have s0 : wr.cell? ⟨w.heap.size, 4, none⟩ = some (.bool true) := by rw [cell_of_row wr _ 4 _ _ _ hb0, ← decide_eq_true hmem]; rfl
          all_goals
            clear h1 h2 hb0 hmem
            go_wp2_with fail
            refine (W.out _).mono ?_
            rintro e w1 ⟨rfl, rfl⟩
            go_wp2
            go_returns
            exact ⟨ret_bool HF.out.symm, hnx⟩
        · have hok' : Hid (nodesOk (L.take (k + 1))) := by
            show nodesOk _
            rw [HT.out, nodesOk_snoc]
            exact ⟨HK.out, h1, h2, hmem⟩
          rcases (show x = 0 ∨ x = 1 ∨ x = 2 ∨ x = 3 ∨ x = 4 by omega) with rfl | rfl | rfl | rfl | rfl
          case' inl =>
            have s0 : wr.cell? ⟨w.heap.size, 0, none⟩ = some (.bool false) := by rw [cell_of_row wr _ 0 _ _ _ hb0, ← decide_eq_false hmem]; rfl
            have z0 : wr.frozen? ⟨w.heap.size, 0, none⟩ = false := frozen_of_row wr _ 0 _ _ hb0
          case' inr.inl =>
            have s0 : wr.cell? ⟨w.heap.size, 1, none⟩ = some (.bool false) := by rw [cell_of_row wr _ 1 _ _ _ hb0, ← decide_eq_false hmem]; rfl
            have z0 : wr.frozen? ⟨w.heap.size, 1, none⟩ = false := frozen_of_row wr _ 1 _ _ hb0
          case' inr.inr.inl =>
            have s0 : wr.cell? ⟨w.heap.size, 2, none⟩ = some (.bool false) := by rw [cell_of_row wr _ 2 _ _ _ hb0, ← decide_eq_false hmem]; rfl
            have z0 : wr.frozen? ⟨w.heap.size, 2, none⟩ = false := frozen_of_row wr _ 2 _ _ hb0
          case' inr.inr.inr.inl =>
            have s0 : wr.cell? ⟨w.heap.size, 3, none⟩ = some (.bool false) := by rw [cell_of_row wr _ 3 _ _ _ hb0, ← decide_eq_false hmem]; rfl
            have z0 : wr.frozen? ⟨w.heap.size, 3, none⟩ = false := frozen_of_row wr _ 3 _ _ hb0
          case' inr.inr.inr.inr =>
            have s0 : wr.cell? ⟨w.heap.size, 4, none⟩ = some (.bool false) := by rw [cell_of_row wr _ 4 _ _ _ hb0, ← decide_eq_false hmem]; rfl
            have z0 : wr.frozen? ⟨w.heap.size, 4, none⟩ = false := frozen_of_row wr _ 4 _ _ hb0
          all_goals
            clear h1 h2 hb0 hmem
            go_wp2_with fail
            refine (W.out _).mono ?_
            rintro e w1 ⟨rfl, rfl⟩
            go_wp2
            go_roundw
            case rel =>
              refine ⟨k + 1, by omega, by go_num, hok'.out, ⟨e0, ?_⟩, hnx.setCell (by simp) _⟩
              rw [heap_setCell_same _ _ _ _ _ _ H0.out, HT.out]
              simp [seenCells]
            case measure => simp [intOf]; omega
      · have W := Lib.hid (fun u => within_no x 0 4 u (by omega))
        have HF : Hid (R = false) := by
          show _ = _
          rw [HR.out]
          refine decide_eq_false fun h => ?_
          have := nodesOk_take h (k + 1)
          rw [HT.out, nodesOk_snoc] at this
          exact hin ⟨this.2.1, this.2.2.1⟩
        clear hin hb0
        go_wp2_with fail
        refine (W.out _).mono ?_
        rintro e w1 ⟨rfl, rfl⟩
        go_wp2
        go_returns
        exact ⟨ret_bool HF.out.symm, hnx⟩
    · have hkn : k = n := by omega
      have HF : Hid (R = true) := by
        show _ = _
        rw [HR.out]
        refine decide_eq_true ?_
        have := HK.out
        rwa [hkn, List.take_of_length_le (by rw [HN.out]; omega)] at this
      clear hkn hb0
      go_wp2
      go_returns
      exact ⟨ret_bool HF.out.symm, hnx⟩
end Go.Proofs.Ytaaffceanjpmbaa

/-! ## ItemCMay -/
/-
  THE PROGRAM's MayChain AND PutChain. No condition but that the chain can be read, and lengths.
-/
namespace Go.Proofs.Ytaaffceanjpmbaa
open Go.RowKit

/-- Block b holds a chain. -/
def ChB (w : World) (b : Nat) (ep : Int) (v : Value) : Prop := ∃ e, w.heap[b]? = some (.cells #[.int .i64 ep, v] e (0, 0))
theorem ChB.cells {w : World} {b : Nat} {ep : Int} {v : Value} (h : ChB w b ep v) : w.cell? ⟨b, 0, none⟩ = some (.int .i64 ep) ∧ w.cell? ⟨b, 1, none⟩ = some v := by
  obtain ⟨e, h⟩ := h
  exact ⟨cell_of_two0 h, cell_of_two1 h⟩
theorem ChB.free {w : World} {b : Nat} {ep : Int} {v : Value} (h : ChB w b ep v) (o : Nat) : w.frozen? ⟨b, o, none⟩ = false := by
  obtain ⟨e, h⟩ := h
  exact free_of_two h o
theorem ChB.lt {w : World} {b : Nat} {ep : Int} {v : Value} (h : ChB w b ep v) : b < w.heap.size := by
  obtain ⟨_, h⟩ := h
  exact lt_of_block h
theorem ChB.keep {w w' : World} {b B : Nat} {ep : Int} {v : Value} (h : ChB w b ep v) (hb : Below B w w') (hB : b < B) : ChB w' b ep v := by
  obtain ⟨e, h⟩ := h
  exact ⟨e, (hb.block b hB).trans h⟩
theorem ChB.fresh (w : World) (ep : Int) (v : Value) (e : TypeId) : ChB (w.alloc (.cells #[.int .i64 ep, v] e)) w.heap.size ep v := ⟨e, heap_alloc_new w _⟩

set_option maxHeartbeats 2000000 in
set_option maxRecDepth 100000 in
theorem maychain_r (ep : Int) (v : Value) (L : List Int) (B : Nat) (w : World) (hI : Ints w B v L) (hBw : B ≤ w.heap.size) (R : Bool) (HR : Hid (R = decide (ChainV.may ⟨ep, L⟩))) :
    Calls Try.prog 35 #[.agg #[.int .i64 ep, v]] w fun e w' => e = .returned (.bool R) ∧ Below w.heap.size w w' := by
  obtain ⟨ao, cap, rfl, h1, h2, h3, h4⟩ := hI
  obtain ⟨n, hn⟩ : ∃ n, L.length = n := ⟨_, rfl⟩
  have hmay : ChainV.may ⟨ep, L⟩ ↔ 0 ≤ ep ∧ ep ≤ 1073741824 ∧ 1 ≤ n ∧ n ≤ 5 ∧ nodesOk L := by unfold ChainV.may; simp only; rw [hn]
  rw [hn] at h1 h4 ⊢
  by_cases he : 0 ≤ ep ∧ ep ≤ 1073741824
  case neg =>
    have hr : R = false := by rw [HR.out]; exact decide_eq_false (by rw [hmay]; rintro ⟨a, b, _⟩; exact he ⟨a, b⟩)
    subst hr
    have W0 := Lib.hid (fun u => within_no ep 0 1073741824 u (by omega))
    clear he HR h4 hmay
    go_enter Try.func35, Try.ntmps35
    go_wp2_with fail
    refine (W0.out _).mono ?_
    rintro e w1 ⟨rfl, rfl⟩
    go_wp2
    go_returns
    exact ⟨rfl, by first | exact (Below.refl _ _).alloc (Nat.le_refl _) _ | go_grown⟩
  have W0 := Lib.hid (fun u => within_yes ep 0 1073741824 u he.1 he.2)
  by_cases hl : 1 ≤ (n : Int) ∧ (n : Int) ≤ 5
  case neg =>
    have hr : R = false := by rw [HR.out]; exact decide_eq_false (by rw [hmay]; rintro ⟨_, _, a, b, _⟩; exact hl ⟨by omega, by omega⟩)
    subst hr
    have W1 := Lib.hid (fun u => within_no (n : Int) 1 5 u (by omega))
    clear he HR h4 hl hmay
    go_enter Try.func35, Try.ntmps35
    go_wp2_with fail
    refine (W0.out _).mono ?_
    rintro e w1 ⟨rfl, rfl⟩
    go_wp2_with fail
    refine (W1.out _).mono ?_
    rintro e w1 ⟨rfl, rfl⟩
    go_wp2
    go_returns
    exact ⟨rfl, by first | exact (Below.refl _ _).alloc (Nat.le_refl _) _ | go_grown⟩
  have W1 := Lib.hid (fun u => within_yes (n : Int) 1 5 u hl.1 hl.2)
  obtain ⟨b, off, rfl, hbB, hc⟩ := h4 (by intro h; rw [h] at hn; simp at hn; omega)
  have hr : R = decide (nodesOk L) := by
    rw [HR.out, decide_eq_decide, hmay]
    constructor
    · rintro ⟨_, _, _, _, h⟩; exact h
    · intro h; exact ⟨he.1, he.2, by omega, by omega, h⟩
  have WN : Hid (∀ o, Calls Try.prog 58 #[.slice (some ⟨b, off, none⟩) n cap] (w.alloc o) fun e w' => e = .returned (.bool R) ∧ Below (w.heap.size + 1) (w.alloc o) w') := by
    intro o
    have hbel : Below w.heap.size w (w.alloc o) := (Below.refl _ w).alloc (Nat.le_refl _) _
    have := maynodes_some b off n cap L (w.alloc o) hn (by omega) (by simp; omega) (fun j hj => (hbel.cell (p := ⟨b, off + j, none⟩) (show b < w.heap.size by omega)).trans (hc j hj))
    rw [hr]
    simpa using this
  clear he hl HR hr hc h4 hmay
  go_enter Try.func35, Try.ntmps35
  go_wp2_with fail
  refine (W0.out _).mono ?_
  rintro e w1 ⟨rfl, rfl⟩
  go_wp2_with fail
  refine (W1.out _).mono ?_
  rintro e w1 ⟨rfl, rfl⟩
  go_wp2_with fail
  refine (WN.out _).mono ?_
  rintro e w1 ⟨rfl, B1⟩
  have BF : Hid (Below w.heap.size w w1) := ((Below.refl _ w).alloc (Nat.le_refl _) _).trans (B1.mono (by omega))
  clear B1
  go_wp2
  go_returns
  exact ⟨rfl, BF.out⟩

/-- The bytes of a row of small numbers. -/
def nodeBytes (L : List Nat) : List UInt8 := L.flatMap Lib.uvarint
def chainBytes (ep : Nat) (L : List Nat) : List UInt8 := Lib.uvarint ep ++ (Lib.uvarint L.length ++ nodeBytes L)

theorem nodeBytes_take (L : List Nat) (k : Nat) (h : k < L.length) : nodeBytes (L.take (k + 1)) = nodeBytes (L.take k) ++ Lib.uvarint (L.getD k 0) := by
  unfold nodeBytes
  rw [List.take_succ_eq_append_getElem h, List.flatMap_append]
  simp [List.getD, h]
theorem nodeBytes_len (L : List Nat) (h : ∀ x ∈ L, x ≤ 9223372036854775807) : (nodeBytes L).length ≤ 10 * L.length := by
  induction L with
  | nil => simp [nodeBytes]
  | cons x r ih =>
    have h1 := Lib.uvarint_length64 (show x < 18446744073709551616 by have := h x (by simp); omega)
    have h2 := ih (fun y hy => h y (List.mem_cons_of_mem _ hy))
    simp only [nodeBytes, List.flatMap_cons, List.length_append, List.length_cons] at h2 ⊢
    omega

set_option maxHeartbeats 2000000 in
set_option maxRecDepth 100000 in
theorem putlist_any (g b off n cap : Nat) (fv : Value) (hfv : fv = .func (.func 84) #[] #[]) (L : List Nat) (xs : List UInt8) (w : World) (hn : L.length = n) (hm : n ≤ 1000) (hL : ∀ x ∈ L, x ≤ 9223372036854775807) (hbg : b < g) (hW : Wrt w g xs) (hxl : xs.length ≤ 1000000)
    (hc : ∀ j, j < n → w.cell? ⟨b, off + j, none⟩ = some (.int .i64 (L.getD j 0 : Nat))) :
    Calls Try.prog 85 #[.pointer (some ⟨g, 0, none⟩), .slice (some ⟨b, off, none⟩) n cap, fv] w fun e w' => e = .returned (.tuple #[]) ∧ Wrt w' g (xs ++ (Lib.uvarint L.length ++ nodeBytes L)) ∧ Below g w w' := by
  subst hfv
  have hu := Lib.uvarint_length64 (show n < 18446744073709551616 by omega)
  have H1 := Lib.hid (putint_any g n (by omega) xs w hW (by omega))
  have hbw := hW.lt
  have HC := Lib.hid hc
  have HN := Lib.hid hn
  have HL := Lib.hid hL
  clear hc hn hL hW
  go_enter Try.func85, Try.ntmps85
  go_wp2_with fail
  refine H1.out.mono ?_
  rintro e w1 ⟨rfl, W1, B1⟩
  go_wp2
  go_loopw [14] (fun vi wr => ∃ k : Nat, k ≤ n ∧ vi = .int .i64 k ∧ Wrt wr g (xs ++ Lib.uvarint n ++ nodeBytes (L.take k)) ∧ Below g w wr)
    (fun vi _ => n - (intOf vi).toNat)
  case atStart => exact ⟨0, by omega, rfl, by simpa [nodeBytes] using W1, B1⟩
  case round =>
    obtain ⟨k, hk, rfl, hW, hnx⟩ := hrel
    by_cases hlt : k < n
    · have hkl : k < L.length := by rw [HN.out]; exact hlt
      obtain ⟨x, hx⟩ : ∃ x, x = L.getD k 0 := ⟨_, rfl⟩
      have hcell : wr.cell? ⟨b, off + k, none⟩ = some (.int .i64 x) := by
        rw [hx, ← HC.out k hlt]
        exact hnx.cell (p := ⟨b, off + k, none⟩) hbg
      have hxm : x ≤ 9223372036854775807 := by
        rw [hx]
        refine HL.out _ ?_
        rw [show L.getD k 0 = L[k] by simp [List.getD, hkl]]
        exact List.getElem_mem hkl
      have HT : Hid (nodeBytes (L.take (k + 1)) = nodeBytes (L.take k) ++ Lib.uvarint x) := by show _ = _; rw [hx]; exact nodeBytes_take L k hkl
      have hlen := nodeBytes_len (L.take k) (fun y hy => HL.out y (List.mem_of_mem_take hy))
      rw [List.length_take] at hlen
      have H2 := Lib.hid (putint_any g x hxm _ wr hW (by simp only [List.length_append]; omega))
      clear hx hW hlen
      go_wp2_with fail
      refine H2.out.mono ?_
      rintro e w2 ⟨rfl, W2, B2⟩
      go_wp2
      go_roundw
      case rel => exact ⟨k + 1, by omega, by go_num, by rw [HT.out, ← List.append_assoc]; exact W2, hnx.trans B2⟩
      case measure => simp [intOf]; omega
    · have hkn : k = n := by omega
      rw [hkn, List.take_of_length_le (by rw [HN.out]; omega)] at hW
      clear hkn
      go_wp2
      go_end0
      exact ⟨rfl, by rw [HN.out, ← List.append_assoc]; exact hW, hnx⟩
end Go.Proofs.Ytaaffceanjpmbaa

/-! ## ItemCPut -/
/-
  THE PROGRAM's PutChain: nothing of a chain that may not be, else its bytes. No condition but that the chain can be read.
-/
namespace Go.Proofs.Ytaaffceanjpmbaa
open Go.RowKit

theorem toNat_getD (L : List Int) (h : ∀ x ∈ L, 0 ≤ x) (j : Nat) : L.getD j 0 = (((L.map Int.toNat).getD j 0 : Nat) : Int) := by
  by_cases hj : j < L.length
  · simp only [List.getD, List.getElem?_map, List.getElem?_eq_getElem hj, Option.map_some, Option.getD_some]
    have := h L[j] (List.getElem_mem hj)
    omega
  · simp [List.getD, List.getElem?_eq_none (show L.length ≤ j by omega)]

/-- The bytes of a chain that may be. -/
def ChainV.bytes (c : ChainV) : List UInt8 := chainBytes c.epoch.toNat (c.nodes.map Int.toNat)

set_option maxHeartbeats 1000000 in
theorem putchain_no (ep : Int) (v : Value) (L : List Int) (B : Nat) (w : World) (hI : Ints w B v L) (hBw : B ≤ w.heap.size) (hm : ¬ ChainV.may ⟨ep, L⟩) :
    Calls Try.prog 64 #[.agg #[.int .i64 ep, v]] w fun e w' => e = .returned (.tuple #[.slice none 0 0, .int .i64 1]) ∧ Below w.heap.size w w' := by
  have W : Hid (∀ o, Calls Try.prog 35 #[.agg #[.int .i64 ep, v]] (w.alloc o) fun e w' => e = .returned (.bool false) ∧ Below (w.alloc o).heap.size (w.alloc o) w') :=
    fun o => maychain_r ep v L B (w.alloc o) (hI.keep (((Below.refl _ w).alloc (Nat.le_refl _) o).mono hBw)) (by simp; omega) false (show _ = _ from (decide_eq_false hm).symm)
  obtain ⟨ao, cap, rfl, _, _, _, _⟩ := hI
  clear hm
  go_enter Try.func64, Try.ntmps64
  go_wp2_with fail
  refine (W.out _).mono ?_
  rintro e w1 ⟨rfl, hb⟩
  have HB := Lib.hid hb
  clear hb
  go_wp2
  go_returns
  exact ⟨rfl, ((Below.refl _ w).alloc (Nat.le_refl _) _).trans (HB.out.mono (by simp))⟩

set_option maxHeartbeats 2000000 in
set_option maxRecDepth 100000 in
theorem putchain_yes (ep : Int) (v : Value) (L : List Int) (B : Nat) (w : World) (hI : Ints w B v L) (hBw : B ≤ w.heap.size) (hm : ChainV.may ⟨ep, L⟩) :
    Calls Try.prog 64 #[.agg #[.int .i64 ep, v]] w fun e w' => ∃ v', e = .returned (.tuple #[v', .int .i64 0]) ∧
      w'.ownsRow w.heap.size 5 1 v' (ChainV.bytes ⟨ep, L⟩).length (Lib.byteCells (ChainV.bytes ⟨ep, L⟩)) ∧ Below w.heap.size w w' := by
  have W : Hid (∀ o, Calls Try.prog 35 #[.agg #[.int .i64 ep, v]] (w.alloc o) fun e w' => e = .returned (.bool true) ∧ Below (w.alloc o).heap.size (w.alloc o) w') :=
    fun o => maychain_r ep v L B (w.alloc o) (hI.keep (((Below.refl _ w).alloc (Nat.le_refl _) o).mono hBw)) (by simp; omega) true (show _ = _ from (decide_eq_true hm).symm)
  obtain ⟨m1, m2, m3, m4, m5⟩ := hm
  simp only at m1 m2 m3 m4 m5
  obtain ⟨ep', rfl⟩ : ∃ n : Nat, ep = n := ⟨ep.toNat, by omega⟩
  obtain ⟨LN, hLN⟩ : ∃ LN, LN = L.map Int.toNat := ⟨_, rfl⟩
  have hget : ∀ j, L.getD j 0 = ((LN.getD j 0 : Nat) : Int) := by rw [hLN]; exact toNat_getD L (fun x hx => (m5.1 x hx).1)
  have hsmall : ∀ x ∈ LN, x ≤ 4 := by
    rw [hLN]
    intro x hx
    obtain ⟨y, hy, rfl⟩ := List.mem_map.1 hx
    have := m5.1 y hy
    omega
  have hbytes : ChainV.bytes ⟨(ep' : Int), L⟩ = chainBytes ep' LN := by rw [hLN]; rfl
  rw [hbytes]
  have hlen : LN.length = L.length := by rw [hLN, List.length_map]
  obtain ⟨ao, cap, rfl, h1, h2, h3, h4⟩ := hI
  obtain ⟨b, off, rfl, hbB, hc⟩ := h4 (by intro h; rw [h] at m3; simp at m3)
  obtain ⟨n, hn⟩ : ∃ n, L.length = n := ⟨_, rfl⟩
  rw [hn] at W h1 m3 m4 hlen hc ⊢
  have HCC : Hid (∀ j, j < n → w.cell? ⟨b, off + j, none⟩ = some (.int .i64 (LN.getD j 0 : Nat))) := fun j hj => by rw [hc j hj, hget]
  have hul := Lib.uvarint_length64 (show ep' < 18446744073709551616 by omega)
  have hnl := nodeBytes_len LN (fun x hx => by have := hsmall x hx; omega)
  have hul2 := Lib.uvarint_length64 (show LN.length < 18446744073709551616 by omega)
  have HS := Lib.hid hsmall
  have HN := Lib.hid hlen
  clear h4 hc hget hsmall hLN hbytes m5 hn
  go_enter Try.func64, Try.ntmps64
  go_wp2_with fail
  refine (W.out _).mono ?_
  rintro e v4 ⟨rfl, B4⟩
  have hsz : w.heap.size < v4.heap.size := by have := B4.size; simp at this; omega
  have D4 : ChB v4 w.heap.size ep' (.slice (some ⟨b, off, none⟩) n cap) := (ChB.fresh w _ _ 28).keep B4 (by simp)
  have HC : Hid (Below w.heap.size w v4) := ((Below.refl _ w).alloc (Nat.le_refl _) _).trans (B4.mono (by simp))
  have HD := Lib.hid D4
  obtain ⟨c0, c1⟩ := D4.cells
  clear D4 B4
  go_wp2_with fail
  refine (putint_any _ ep' (by omega) [] _ (Wrt.fresh v4 _) (by simp)).mono ?_
  rintro e v5 ⟨rfl, W5, B5⟩
  have D5 : ChB v5 w.heap.size ep' (.slice (some ⟨b, off, none⟩) n cap) := HD.out.keep (((Below.refl _ v4).alloc (Nat.le_refl _) _).trans B5) hsz
  have HC5 : Hid (Below w.heap.size w v5) := HC.out.trans ((((Below.refl _ v4).alloc (Nat.le_refl _) _).trans B5).mono (by omega))
  obtain ⟨d0, d1⟩ := D5.cells
  clear D5 B5 c0 c1
  have HP := Lib.hid (fun fv hfv => putlist_any v4.heap.size b off n cap fv hfv LN _ v5 HN.out (by omega) (fun x hx => by have := HS.out x hx; omega) (by omega) W5 (by simp; omega) (fun j hj => (HC5.out.cell (p := ⟨b, off + j, none⟩) (show b < w.heap.size by omega)).trans (HCC.out j hj)))
  clear W5
  go_wp2_with fail
  refine (HP.out _ rfl).mono ?_
  rintro e v6 ⟨rfl, W6, B6⟩
  have l5 := HC5.out.size
  have l6 := W6.lt
  have HC6 : Hid (Below w.heap.size w v6) := HC5.out.trans (B6.mono (by omega))
  clear B6
  go_wp2_with fail
  refine (wbytes_any _ _ _ W6 (by simp only [List.length_append, List.length_nil]; omega)).mono ?_
  rintro e v7 ⟨v', rfl, h1, B7⟩
  have l7 := HC6.out.size
  have HB7 := Lib.hid B7
  have H1 := Lib.hid h1
  clear B7 h1 W6
  go_wp2
  go_returns
  refine ⟨v', rfl, own_base (base := v6.heap.size) ?_ l7, HC6.out.trans (HB7.out.mono l7)⟩
  have e : [] ++ Lib.uvarint ep' ++ (Lib.uvarint LN.length ++ nodeBytes LN) = chainBytes ep' LN := by simp only [chainBytes, List.nil_append]
  rw [← e]
  exact H1.out

end Go.Proofs.Ytaaffceanjpmbaa

/-! ## ItemCMath -/
/-
  WHAT A READER FINDS OF A CHAIN in any bytes: pure facts.
-/
namespace Go.Proofs.Ytaaffceanjpmbaa
open Go.RowKit

/-- So many numbers read one behind the other. -/
def rList (M : Nat) : Nat → Option (List UInt8) → List Nat × Option (List UInt8)
  | 0, st => ([], st)
  | k + 1, st => ((rNum M st).1 :: (rList M k (rNum M st).2).1, (rList M k (rNum M st).2).2)

theorem rList_length (M : Nat) : ∀ (k : Nat) (st : Option (List UInt8)), (rList M k st).1.length = k := by
  intro k
  induction k with
  | zero => intro st; rfl
  | succ k ih => intro st; simp only [rList, List.length_cons, ih]

theorem rList_got (M : Nat) : ∀ (k : Nat) (st : Option (List UInt8)) (r : List UInt8), (rList M k st).2 = some r → st = some (nodeBytes (rList M k st).1 ++ r) := by
  intro k
  induction k with
  | zero => intro st r h; simpa [rList, nodeBytes] using h
  | succ k ih =>
    intro st r h
    simp only [rList] at h ⊢
    have h1 := ih _ _ h
    have h2 : rNum M st = ((rNum M st).1, some (nodeBytes (rList M k (rNum M st).2).1 ++ r)) := by rw [← h1]
    have h3 := (rNum_got h2).1
    rw [← List.append_assoc] at h3
    exact h3

theorem rList_put (M : Nat) (hM : M < 18446744073709551616) : ∀ (L : List Nat) (r : List UInt8), (∀ x ∈ L, x ≤ M) → rList M L.length (some (nodeBytes L ++ r)) = (L, some r) := by
  intro L
  induction L with
  | nil => intro r _; simp [rList, nodeBytes]
  | cons x t ih =>
    intro r h
    have hx := h x (by simp)
    have e : nodeBytes (x :: t) ++ r = Lib.uvarint x ++ (nodeBytes t ++ r) := by simp [nodeBytes, List.append_assoc]
    have h1 := rNum_put M x (by omega) hx (nodeBytes t ++ r)
    rw [e]
    simp only [List.length_cons, rList, h1, ih r (fun y hy => h y (List.mem_cons_of_mem _ hy))]

structure CBounds where
  ep : Nat
  cnt : Nat
  el : Nat

def ch1 (B : CBounds) (l : List UInt8) := rNum B.ep (some l)
def ch2 (B : CBounds) (l : List UInt8) := rNum B.cnt (ch1 B l).2
def ch3 (B : CBounds) (l : List UInt8) := rList B.el (ch2 B l).1 (ch2 B l).2

structure GotC where
  ep : Nat
  nodes : List Nat

def gotC (B : CBounds) (l : List UInt8) : GotC := ⟨(ch1 B l).1, (ch3 B l).1⟩
def GotC.bytes (g : GotC) : List UInt8 := chainBytes g.ep g.nodes
def GotC.chain (g : GotC) : ChainV := ⟨g.ep, g.nodes.map fun (n : Nat) => (n : Int)⟩
def CBounds.wide (B : CBounds) : Prop := 1073741824 ≤ B.ep ∧ 5 ≤ B.cnt ∧ 4 ≤ B.el ∧ B.el < 18446744073709551616
def goodC (B : CBounds) (l : List UInt8) : Prop := (ch3 B l).2 = some [] ∧ (gotC B l).chain.may
instance (B : CBounds) (l : List UInt8) : Decidable (goodC B l) := by unfold goodC; infer_instance

theorem gotC_bytes {B : CBounds} {l r : List UInt8} (h : (ch3 B l).2 = some r) : l = (gotC B l).bytes ++ r := by
  have e3 := rList_got _ _ _ _ h
  have split1 : ∀ {α : Type} {x : α × Option (List UInt8)} {t : List UInt8}, x.2 = some t → x = (x.1, some t) := by intro α x t h; rw [← h]
  have e2 := (rNum_got (split1 e3)).1
  have e1 := (rNum_got (split1 e2)).1
  have hl : (ch3 B l).1.length = (ch2 B l).1 := rList_length _ _ _
  have := Option.some.inj e1
  conv => lhs; rw [this]
  simp only [GotC.bytes, gotC, chainBytes, List.append_assoc]
  rw [hl]
  rfl

theorem gotC_put {B : CBounds} (hB : B.wide) (g : GotC) (hm : g.chain.may) (r : List UInt8) : (ch3 B (g.bytes ++ r)).2 = some r ∧ gotC B (g.bytes ++ r) = g := by
  obtain ⟨b1, b2, b3, b4⟩ := hB
  obtain ⟨ep, L⟩ := g
  obtain ⟨m1, m2, m3, m4, m5⟩ := hm
  simp only [GotC.chain, List.length_map] at m1 m2 m3 m4 m5
  have hel : ∀ x ∈ L, x ≤ B.el := by
    intro x hx
    have := m5.1 (x : Int) (List.mem_map.2 ⟨x, hx, rfl⟩)
    omega
  have e1 : ch1 B (GotC.bytes ⟨ep, L⟩ ++ r) = (ep, some (Lib.uvarint L.length ++ (nodeBytes L ++ r))) := by
    simp only [ch1, GotC.bytes, chainBytes, List.append_assoc]
    exact rNum_put _ _ (by omega) (by omega) _
  have e2 : ch2 B (GotC.bytes ⟨ep, L⟩ ++ r) = (L.length, some (nodeBytes L ++ r)) := by
    simp only [ch2, e1]
    exact rNum_put _ _ (by omega) (by omega) _
  have e3 : ch3 B (GotC.bytes ⟨ep, L⟩ ++ r) = (L, some r) := by
    simp only [ch3, e2]
    exact rList_put _ b4 L r hel
  refine ⟨by rw [e3], ?_⟩
  simp only [gotC, e1, e3]

theorem goodC_put {B : CBounds} (hB : B.wide) (g : GotC) (hm : g.chain.may) : goodC B g.bytes ∧ gotC B g.bytes = g := by
  have h := gotC_put hB g hm []
  rw [List.append_nil] at h
  exact ⟨⟨h.1, by rw [h.2]; exact hm⟩, h.2⟩
theorem goodC_got {B : CBounds} {l : List UInt8} (h : goodC B l) : l = (gotC B l).bytes := by
  have := gotC_bytes h.1
  rwa [List.append_nil] at this
theorem goodC_same {B C : CBounds} (hC : C.wide) {l : List UInt8} (h : goodC B l) : goodC C l ∧ gotC C l = gotC B l := by
  have hb := goodC_got h
  have := goodC_put hC (gotC B l) h.2
  rw [← hb] at this
  exact this
theorem chain_apart (g h : GotC) (hg : g.chain.may) (hh : h.chain.may) (e : g.bytes = h.bytes) : g = h := by
  have w : CBounds.wide ⟨1073741824, 5, 4⟩ := by unfold CBounds.wide; decide
  have h1 := (goodC_put w g hg).2
  have h2 := (goodC_put w h hh).2
  rw [← h1, ← h2, e]

/-- A chain that may be, as numbers. -/
def ChainV.got (c : ChainV) : GotC := ⟨c.epoch.toNat, c.nodes.map Int.toNat⟩
theorem ChainV.got_chain (c : ChainV) (h : c.may) : c.got.chain = c := by
  obtain ⟨ep, L⟩ := c
  obtain ⟨m1, m2, m3, m4, m5⟩ := h
  simp only at m1 m5
  simp only [ChainV.got, GotC.chain]
  have h1 : ((ep.toNat : Nat) : Int) = ep := by omega
  have h2 : (L.map Int.toNat).map (fun (n : Nat) => (n : Int)) = L := by
    rw [List.map_map]
    conv => rhs; rw [← List.map_id L]
    apply List.map_congr_left
    intro x hx
    have := m5.1 x hx
    simp only [Function.comp, id]
    omega
  rw [h1, h2]
theorem ChainV.got_bytes (c : ChainV) : c.got.bytes = c.bytes := rfl

theorem chain_len (g : GotC) (hm : g.chain.may) : g.bytes.length ≤ 100 := by
  obtain ⟨ep, L⟩ := g
  obtain ⟨m1, m2, m3, m4, m5⟩ := hm
  simp only [GotC.chain, List.length_map] at m1 m2 m3 m4 m5
  have u1 := Lib.uvarint_length64 (show ep < 18446744073709551616 by omega)
  have u2 := Lib.uvarint_length64 (show L.length < 18446744073709551616 by omega)
  have u3 := nodeBytes_len L (fun x hx => by
    have := m5.1 (x : Int) (List.mem_map.2 ⟨x, hx, rfl⟩)
    omega)
  simp only [GotC.bytes, chainBytes, List.length_append]
  omega
end Go.Proofs.Ytaaffceanjpmbaa

/-! ## ItemCGet -/
/-
  THE PROGRAM's getNode, getList, GetChain: the chain that the bytes are, or none. No condition but lengths.
-/
namespace Go.Proofs.Ytaaffceanjpmbaa
open Go.RowKit

set_option maxHeartbeats 400000 in
theorem getnode_any {lo : Nat} (h : Nat) (st : Option (List UInt8)) (w : World) (hR : RdrL lo w h st) (hm : ∀ l, st = some l → l.length ≤ 140737488355328) :
    Calls Try.prog 89 #[.pointer (some ⟨h, 0, none⟩)] w fun e w' => e = .returned (.int .i64 (rNum 4 st).1) ∧ RdrL lo w' h (rNum 4 st).2 ∧ w.grownBy w' (some h) := by
  have H := Lib.hid (getint_any h st 4 (by omega) w hR hm)
  obtain ⟨v, hv⟩ : ∃ v, v = (rNum 4 st).1 := ⟨_, rfl⟩
  rw [← hv] at H ⊢
  clear hR hm hv
  go_enter Try.func89, Try.ntmps89
  go_wp2_with fail
  refine H.out.mono ?_
  rintro e w1 ⟨rfl, h1, h2⟩
  go_wp2
  go_returns
  exact ⟨rfl, h1, h2⟩

theorem info_int : (Try.prog.info? 3).map (fun i => (i.zero, i.size, i.bytes)) = some (some (.int .i64 0), 1, 8) := by kernel_rfl

theorem src_one_int (w : World) (v : Value) (e : TypeId) (h1 : v.oneCell' = true) : Src Try.prog 1 22 (.slice (some ⟨w.heap.size, 0, none⟩) 1 1) 1 [v] (w.alloc (.cells #[v] e)) :=
  Src.ofSlice _ Try.underlying22 ⟨w.heap.size, 0, none⟩ 1 1 [v] rfl
    (by intro j u hj; match j, hj with | 0, hj => simp at hj; subst hj; simp [Addr.add])
    (by intro u hu; simp at hu; subst hu; exact h1)

/-- The numbers as ints. -/
def ofNats (L : List Nat) : List Int := L.map fun (n : Nat) => (n : Int)

/-- The reader behind k steps of the list. -/
def rAt (M : Nat) : Nat → Option (List UInt8) → Option (List UInt8)
  | 0, st => st
  | k + 1, st => rAt M k (rNum M st).2
/-- The list step by step from the left. -/
theorem rList_snoc (M : Nat) : ∀ (k : Nat) (st : Option (List UInt8)), rList M (k + 1) st = ((rList M k st).1 ++ [(rNum M (rList M k st).2).1], (rNum M (rList M k st).2).2) := by
  intro k
  induction k with
  | zero => intro st; rfl
  | succ k ih =>
    intro st
    have h := ih (rNum M st).2
    show ((rNum M st).1 :: (rList M (k + 1) (rNum M st).2).1, (rList M (k + 1) (rNum M st).2).2) = _
    rw [h]
    rfl
theorem rList_len (M : Nat) (b : Nat) : ∀ (k : Nat) (st : Option (List UInt8)), (∀ l, st = some l → l.length ≤ b) → ∀ l, (rList M k st).2 = some l → l.length ≤ b := by
  intro k
  induction k with
  | zero => intro st h l hl; exact h l hl
  | succ k ih => intro st h l hl; exact ih _ (rNum_len2 M st b h) l hl

theorem below_grown2 {w w' : World} (h : Below w.heap.size w w') : w.grownBy w' none := ⟨h.os, h.tape, h.output, h.size, fun k hk _ => h.block k hk⟩
theorem grown_mix {a b c : World} {h : Nat} {row : Option Nat} (h1 : a.grownBy b (some h)) (h2 : b.grownBy c row) (hr : ∀ g, row = some g → a.heap.size ≤ g) : a.grownBy c (some h) :=
  ⟨h2.os.trans h1.os, h2.tape.trans h1.tape, h2.output.trans h1.output, Nat.le_trans h1.size h2.size, fun k hk hne =>
    (h2.block k (Nat.lt_of_lt_of_le hk h1.size) (fun e => by have := hr k e.symm; omega)).trans (h1.block k hk hne)⟩

set_option maxHeartbeats 2000000 in
set_option maxRecDepth 100000 in
theorem getlist_any {lo : Nat} (h : Nat) (st : Option (List UInt8)) (fv : Value) (hfv : fv = .func (.func 89) #[] #[]) (w : World) (hR : RdrL lo w h st) (hm : ∀ l, st = some l → l.length ≤ 140737488355328) :
    Calls Try.prog 88 #[.pointer (some ⟨h, 0, none⟩), .int .i64 5, fv] w fun e w' => ∃ v', e = .returned v' ∧
      w'.ownsRow w.heap.size 3 1 v' (rNum 5 st).1 (intCells (ofNats (rList 4 (rNum 5 st).1 (rNum 5 st).2).1)) ∧ RdrL lo w' h (rList 4 (rNum 5 st).1 (rNum 5 st).2).2 ∧ w.grownBy w' (some h) := by
  subst hfv
  obtain ⟨i0, hi, hz0, hz1, hz2⟩ := info_parts info_int
  have H := Lib.hid (getint_any h st 5 (by omega) w hR hm)
  obtain ⟨n, s0, hns⟩ : ∃ n s0, rNum 5 st = (n, s0) := ⟨_, _, rfl⟩
  have hn5 : n ≤ 5 := by have := rNum_le 5 st; rw [hns] at this; exact this
  have hm0 := rNum_len2 5 st _ hm
  rw [hns] at H hm0 ⊢
  simp only at H hm0 ⊢
  have HM := Lib.hid hm0
  have lth := hR.lt
  clear hR hm hns hm0
  go_enter Try.func88, Try.ntmps88
  go_wp2_with fail
  refine H.out.mono ?_
  rintro e w1 ⟨rfl, R1, G1⟩
  go_wp2
  go_loopw [7, 11] (fun vl vi wr => ∃ k : Nat, k ≤ n ∧ vi = .int .i64 k ∧ wr.ownsRow w.heap.size 3 1 vl k (intCells (ofNats (rList 4 k s0).1)) ∧ RdrL lo wr h (rList 4 k s0).2 ∧ w.grownBy wr (some h))
    (fun _ vi _ => n - (intOf vi).toNat)
  case atStart => exact ⟨0, by omega, rfl, World.ownsRow_nil _ _ _ _, R1, G1⟩
  case round =>
    obtain ⟨k, hk, rfl, hown, hRk, hG⟩ := hrel
    have hsz := hG.size
    by_cases hlt : k < n
    · have HS := Lib.hid (rList_snoc 4 k s0)
      have HA := Lib.hid (getnode_any h _ wr hRk (rList_len 4 _ k s0 HM.out))
      obtain ⟨x, s1, hx⟩ : ∃ x s1, rNum 4 (rList 4 k s0).2 = (x, s1) := ⟨_, _, rfl⟩
      rw [hx] at HS HA
      simp only at HS HA
      have HK := Lib.hid hown
      obtain ⟨a0, c0, rfl⟩ := own_shape hown
      have lt2 := hRk.lt
      clear hx hRk hown
      go_wp2_with fail
      refine HA.out.mono ?_
      rintro e w2 ⟨rfl, R2, G2⟩
      have hown2 : w2.ownsRow w.heap.size 3 1 (.slice a0 k c0) k (intCells (ofNats (rList 4 k s0).1)) := by
        refine ⟨HK.out.1, ?_⟩
        rcases HK.out.2 with hz | ⟨g, cap, cur, hv, hg, hh, rest⟩
        · exact .inl hz
        · exact .inr ⟨g, cap, cur, hv, hg, (G2.block g (lt_of_block hh) (fun e => by have := Option.some.inj e; omega)).trans hh, rest⟩
      have hsz2 := G2.size
      go_wp2_with (at_builtin; refine wpList_append_own_src rfl (.tmp 13) (.tmp 17) 22 22 rfl w.heap.size 3 i0 (.int .i64 0) 1 8 Try.underlying22 hi hz0 hz1 hz2 rfl _ _ _ rfl (hown2.alloc _) _ 1 [Value.int .i64 (x : Int)] rfl (src_one_int w2 _ _ rfl) ?c3 ?c4 ?c5 ?_)
      case c3 => unfold maxLen; omega
      case c4 => omega
      case c5 => simp; omega
      intro v' w3 hown' hgrow
      have HL : Hid (Below w.heap.size w2 w3) := ((Below.refl _ _).alloc (by omega) _).grown hgrow (by simp; omega) (fun g hg => (hown2.lt g hg).1)
      have hrow : ∀ g, (Value.slice a0 k c0).ownBlock = some g → w.heap.size ≤ g := fun g hg => (hown2.lt g hg).1
      have HG3 : Hid (w.grownBy w3 (some h)) :=
        grown_mix (grown_mix (grownBy_trans hG G2) (below_grown2 ((Below.refl _ w2).alloc (Nat.le_refl _) _)) (fun g hg => by cases hg)) hgrow hrow
      have HR3 : Hid (RdrL lo w3 h s1) := R2.keep (HL.out.mono (by omega))
      obtain ⟨a', c', rfl⟩ := own_shape hown'
      have HO := Lib.hid hown'
      clear hgrow hrow hown' hown2 R2 G2
      go_wp2
      go_roundw
      case rel =>
        refine ⟨k + 1, by omega, by go_num, ?_, by rw [HS.out]; exact HR3.out, HG3.out⟩
        rw [HS.out]
        have e : intCells (ofNats ((rList 4 k s0).1 ++ [x])) = intCells (ofNats (rList 4 k s0).1) ++ [Value.int .i64 (x : Int)] := by simp [intCells, ofNats]
        rw [e]
        exact HO.out
      case measure => simp [intOf]; omega
    · have hkn : k = n := by omega
      subst hkn
      have HO := Lib.hid hown
      have HR' := Lib.hid hRk
      obtain ⟨a0, c0, rfl⟩ := own_shape hown
      clear hown hRk
      go_wp2
      go_returns
      exact ⟨_, rfl, HO.out, HR'.out, hG⟩
end Go.Proofs.Ytaaffceanjpmbaa

/-! ## ItemCGet2 -/
/-
  THE PROGRAM's GetChain: the chain that the bytes are, or none. No condition but lengths.
-/
namespace Go.Proofs.Ytaaffceanjpmbaa
open Go.RowKit

theorem own_grown {w w' : World} {base r : Nat} {e : TypeId} {size : Nat} {v : Value} {n : Nat} {xs : List Value} (h : w.ownsRow base e size v n xs) (hg : w.grownBy w' (some r)) (hr : r < base) : w'.ownsRow base e size v n xs := by
  refine ⟨h.1, ?_⟩
  rcases h.2 with hz | ⟨g, cap, cur, hv, hgb, hh, rest⟩
  · exact .inl hz
  · exact .inr ⟨g, cap, cur, hv, hgb, (hg.block g (lt_of_block hh) (fun e => by have := Option.some.inj e; omega)).trans hh, rest⟩
theorem own_below {w w' : World} {base : Nat} {e : TypeId} {size : Nat} {v : Value} {n : Nat} {xs : List Value} (h : w.ownsRow base e size v n xs) (hb : Below w.heap.size w w') : w'.ownsRow base e size v n xs := by
  refine ⟨h.1, ?_⟩
  rcases h.2 with hz | ⟨g, cap, cur, hv, hgb, hh, rest⟩
  · exact .inl hz
  · exact .inr ⟨g, cap, cur, hv, hgb, (hb.block g (lt_of_block hh)).trans hh, rest⟩

theorem size_Chain : (Try.prog.info? 28).map (·.size) = some 2 := by kernel_rfl

/-- A chain stored whole into a block that holds one. -/
theorem store_ch {ops : Array Oper} {rest : List Oper} {o : Oper} {a : Act} {w : World} {Q : Exit → Act → World → Prop} (hgd : o.guard = none) (x y : Operand) (ho : o.op = .store 28 x y)
    (g : Nat) (hx : a.eval x = .pointer (some ⟨g, 0, none⟩)) (ep : Int) (ao : Option Addr) (n cap : Nat) (hy : a.eval y = .agg #[.int .i64 ep, .slice ao n cap])
    {ep0 : Int} {v0 : Value} (hg : ChB w g ep0 v0)
    (h : ∀ w', ChB w' g ep (.slice ao n cap) → w.grownBy w' (some g) → wpList Try.prog ops Q rest (a.put o.dst undef) w') : wpList Try.prog ops Q (o :: rest) a w := by
  obtain ⟨e, hb⟩ := hg
  refine wpList_store_row hgd 28 x y ho g #[.int .i64 ep, .slice ao n cap] hx hy e _ hb size_Chain rfl (by simp [Value.oneCell']) (h _ ⟨e, ?_⟩ ?_)
  · exact setRow_heap w g _ _ e _ hb
  · exact ⟨rfl, rfl, rfl, by simp, fun k _ hk => setRow_other w g k _ (fun e => hk (by rw [e]))⟩

def progC : CBounds := ⟨1073741824, 5, 4⟩
theorem progC_wide : progC.wide := by unfold CBounds.wide progC; decide

set_option maxHeartbeats 1000000 in
set_option maxRecDepth 100000 in
theorem getchain_bad (v : Value) (Bw : Nat) (l : List UInt8) (w : World) (hB : Byt w Bw v l) (hBw : Bw ≤ w.heap.size) (hlim : l.length ≤ 140737488355328) (hng : ¬ goodC progC l) :
    Calls Try.prog 71 #[v] w fun e w' => e = .returned (.tuple #[.agg #[.int .i64 0, .slice none 0 0], .int .i64 2]) ∧ Below w.heap.size w w' := by
  have hs0 : ∀ o, (w.alloc o).heap.size = w.heap.size + 1 := by simp
  have HN : Hid (∀ o, Calls Try.prog 45 #[v] (w.alloc o) fun e w' => ∃ h, e = .returned (.pointer (some ⟨h, 0, none⟩)) ∧ w.heap.size + 1 ≤ h ∧ RdrL (w.heap.size + 1) w' h (some l) ∧ Below (w.heap.size + 1) (w.alloc o) w') := by
    intro o
    have := new_any v Bw l (w.alloc o) (hB.keep (((Below.refl _ w).alloc (Nat.le_refl _) o).mono hBw)) (by simp; omega) hlim
    rwa [hs0] at this
  obtain ⟨V1, s1, e1⟩ : ∃ V s, ch1 progC l = (V, s) := ⟨_, _, rfl⟩
  obtain ⟨N, s2, e2⟩ : ∃ V s, ch2 progC l = (V, s) := ⟨_, _, rfl⟩
  obtain ⟨LN, s3, e3⟩ : ∃ V s, ch3 progC l = (V, s) := ⟨_, _, rfl⟩
  have hgot : gotC progC l = ⟨V1, LN⟩ := by simp only [gotC, e1, e3]
  have hgood : goodC progC l ↔ s3 = some [] ∧ ChainV.may ⟨V1, ofNats LN⟩ := by simp only [goodC, hgot, e3, GotC.chain, ofNats]
  have f1 : rNum 1073741824 (some l) = (V1, s1) := e1
  have f2 : rNum 5 s1 = (N, s2) := by rw [← e2, ch2, e1]; rfl
  have f3 : rList 4 N s2 = (LN, s3) := by rw [← e3, ch3, e2]; rfl
  have hNL : LN.length = N := by have := rList_length 4 N s2; rw [f3] at this; exact this
  have m0 : ∀ t, some l = some t → t.length ≤ 140737488355328 := by intro t ht; rw [← Option.some.inj ht]; exact hlim
  have m1 := rNum_len2 1073741824 (some l) _ m0
  rw [f1] at m1
  have m2 := rNum_len2 5 s1 _ m1
  rw [f2] at m2
  have m3 := rList_len 4 _ N s2 m2
  rw [f3] at m3
  have p1 : ∀ (h : Nat) (u : World), RdrL (w.heap.size + 1) u h (some l) → Calls Try.prog 87 #[.pointer (some ⟨h, 0, none⟩), .int .i64 1073741824] u fun e w' => e = .returned (.int .i64 V1) ∧ RdrL (w.heap.size + 1) w' h s1 ∧ u.grownBy w' (some h) := by
    intro h u hR
    have := getint_any h (some l) 1073741824 (by omega) u hR m0
    rwa [f1] at this
  have p2 : ∀ (h : Nat) (fv : Value) (_ : fv = .func (.func 89) #[] #[]) (u : World), RdrL (w.heap.size + 1) u h s1 → Calls Try.prog 88 #[.pointer (some ⟨h, 0, none⟩), .int .i64 5, fv] u fun e w' => ∃ v', e = .returned v' ∧ w'.ownsRow u.heap.size 3 1 v' N (intCells (ofNats LN)) ∧ RdrL (w.heap.size + 1) w' h s3 ∧ u.grownBy w' (some h) := by
    intro h fv hfv u hR
    have := getlist_any h s1 fv hfv u hR m1
    rwa [f2, f3] at this
  have P1 := Lib.hid p1
  have P2 := Lib.hid p2
  have HM3 := Lib.hid m3
  have HNL := Lib.hid hNL
  rw [hgood] at hng
  by_cases hE : s3 = some []
  case neg =>
    obtain ⟨E, hEE⟩ : ∃ E, E = rEnd s3 := ⟨_, rfl⟩
    have hb : 0 < E := by
      rw [hEE]
      cases s3 with
      | none => decide
      | some t =>
        cases t with
        | nil => exact absurd rfl hE
        | cons => show (0 : Int) < 9; decide
    clear hE hng hB hBw hlim e1 e2 e3 f1 f2 f3 m0 m1 m2 m3 p1 p2 hgot hgood hs0 hNL
    go_enter Try.func71, Try.ntmps71
    go_wp2_with fail
    refine (HN.out _).mono ?_
    rintro e v0 ⟨h, rfl, g1, R0, B0⟩
    have D0 := (ChB.fresh w 0 (.slice none 0 0) 28).keep B0 (Nat.lt_succ_self _)
    have C0 : Hid (Below w.heap.size w v0) := ((Below.refl _ w).alloc (Nat.le_refl _) _).trans (B0.mono (Nat.le_succ _))
    have HD0 := Lib.hid D0
    have l0 := R0.lt
    clear D0 B0
    go_wp2_with fail
    refine (P1.out h _ R0).mono ?_
    rintro e v1 ⟨rfl, R1, G1⟩
    clear R0
    have l1 := G1.size
    go_wp2_with fail
    refine (P2.out h _ rfl _ R1).mono ?_
    rintro e v6 ⟨vl, rfl, O6, R6, G2⟩
    clear R1
    have G := Lib.hid (grownBy_trans G1 G2)
    clear G1 G2
    have C6 : Hid (Below w.heap.size w v6) := C0.out.trans (grown_below G.out (by omega) l0)
    have D6 : ChB v6 w.heap.size 0 (.slice none 0 0) := by
      obtain ⟨t, ht⟩ := HD0.out
      exact ⟨t, (G.out.block w.heap.size (lt_of_block ht) (fun e => by have := Option.some.inj e; omega)).trans ht⟩
    have HD6 := Lib.hid D6
    have lt6 := D6.lt
    have HO6 := Lib.hid O6
    obtain ⟨ao, cp, rfl⟩ := own_shape O6
    clear D6 O6
    have KE := Lib.hid (fun o => rend_any h s3 (v6.alloc o) (rdrl_alloc R6 o) HM3.out)
    clear R6
    have HD7 : Hid (∀ o, ChB (v6.alloc o) w.heap.size 0 (.slice none 0 0)) := fun o => HD6.out.keep ((Below.refl _ _).alloc (Nat.le_refl _) _) lt6
    have C7 : Hid (∀ o, Below w.heap.size w (v6.alloc o)) := fun o => C6.out.alloc (Nat.le_of_lt lt6) _
    rw [← hEE] at KE
    have HE0 := Lib.hid hEE
    clear hEE
    go_wp2_with fail
    refine (KE.out _).mono ?_
    rintro e v7 ⟨rfl, rfl⟩
    go_wp2_with (refine store_ch rfl (.tmp 2) (.tmp 21) rfl w.heap.size rfl 0 none 0 0 rfl (HD7.out _) ?_)
    intro w8 H8 G8
    obtain ⟨c0, c1⟩ := H8.cells
    have BF : Hid (Below w.heap.size w w8) := (C7.out _).trans (grown_below G8 (Nat.le_refl _) (HD7.out _).lt)
    go_wp2
    refine bodyPost_ret (v := .tuple #[.agg #[.int .i64 0, .slice none 0 0], .int .i64 2]) (by simp [results, Try.results71, go_sem, c0, c1]) rfl ⟨rfl, BF.out⟩
  case pos =>
    have hnm : ¬ ChainV.may ⟨V1, ofNats LN⟩ := fun h => hng ⟨hE, h⟩
    have HV := Lib.hid (decide_eq_false hnm).symm
    have HEs := Lib.hid hE
    clear hnm hng hE hB hBw hlim e1 e2 e3 f1 f2 f3 m0 m1 m2 m3 p1 p2 hgot hgood hs0 hNL
    go_enter Try.func71, Try.ntmps71
    go_wp2_with fail
    refine (HN.out _).mono ?_
    rintro e v0 ⟨h, rfl, g1, R0, B0⟩
    have D0 := (ChB.fresh w 0 (.slice none 0 0) 28).keep B0 (Nat.lt_succ_self _)
    have C0 : Hid (Below w.heap.size w v0) := ((Below.refl _ w).alloc (Nat.le_refl _) _).trans (B0.mono (Nat.le_succ _))
    have HD0 := Lib.hid D0
    have l0 := R0.lt
    clear D0 B0
    go_wp2_with fail
    refine (P1.out h _ R0).mono ?_
    rintro e v1 ⟨rfl, R1, G1⟩
    clear R0
    have l1 := G1.size
    go_wp2_with fail
    refine (P2.out h _ rfl _ R1).mono ?_
    rintro e v6 ⟨vl, rfl, O6, R6, G2⟩
    clear R1
    have G := Lib.hid (grownBy_trans G1 G2)
    clear G1 G2
    have C6 : Hid (Below w.heap.size w v6) := C0.out.trans (grown_below G.out (by omega) l0)
    have D6 : ChB v6 w.heap.size 0 (.slice none 0 0) := by
      obtain ⟨t, ht⟩ := HD0.out
      exact ⟨t, (G.out.block w.heap.size (lt_of_block ht) (fun e => by have := Option.some.inj e; omega)).trans ht⟩
    have HD6 := Lib.hid D6
    have lt6 := D6.lt
    have HO6 := Lib.hid O6
    obtain ⟨ao, cp, rfl⟩ := own_shape O6
    clear D6 O6
    have KE := Lib.hid (fun o => rend_any h s3 (v6.alloc o) (rdrl_alloc R6 o) HM3.out)
    clear R6
    have HD7 : Hid (∀ o, ChB (v6.alloc o) w.heap.size 0 (.slice none 0 0)) := fun o => HD6.out.keep ((Below.refl _ _).alloc (Nat.le_refl _) _) lt6
    have C7 : Hid (∀ o, Below w.heap.size w (v6.alloc o)) := fun o => C6.out.alloc (Nat.le_of_lt lt6) _
    have KE0 : Hid (∀ o, Calls Try.prog 49 #[.pointer (some ⟨h, 0, none⟩)] (v6.alloc o) fun e w' => e = .returned (.int .i64 0) ∧ v6.alloc o = w') := by
      intro o
      have := KE.out o
      rw [HEs.out] at this
      exact this
    go_wp2_with fail
    refine (KE0.out _).mono ?_
    rintro e v7 ⟨rfl, rfl⟩
    have O7 : ∀ o, (v6.alloc o).ownsRow v1.heap.size 3 1 (.slice ao N cp) N (intCells (ofNats LN)) := fun o => own_below HO6.out ((Below.refl _ _).alloc (Nat.le_refl _) _)
    have WM := Lib.hid (fun o => maychain_r V1 (.slice ao N cp) (ofNats LN) (v6.alloc o).heap.size (v6.alloc o) (ints_own (O7 o) (Nat.le_refl _)) (Nat.le_refl _) false (show _ = _ from HV.out))
    have HO7 := Lib.hid O7
    clear O7
    go_wp2_with fail
    refine (WM.out _).mono ?_
    rintro e v8 ⟨rfl, B8⟩
    have HD8 := Lib.hid ((HD7.out _).keep B8 (by simp; omega))
    have C8 := Lib.hid ((C7.out _).trans (B8.mono (by simp; omega)))
    clear B8
    go_wp2_with (refine store_ch rfl (.tmp 2) (.tmp 21) rfl w.heap.size rfl 0 none 0 0 rfl HD8.out ?_)
    intro w8 H8 G8
    obtain ⟨c0, c1⟩ := H8.cells
    have BF : Hid (Below w.heap.size w w8) := C8.out.trans (grown_below G8 (Nat.le_refl _) HD8.out.lt)
    go_wp2
    refine bodyPost_ret (v := .tuple #[.agg #[.int .i64 0, .slice none 0 0], .int .i64 2]) (by simp [results, Try.results71, go_sem, c0, c1]) rfl ⟨rfl, BF.out⟩

set_option maxHeartbeats 1000000 in
set_option maxRecDepth 100000 in
theorem getchain_good (v : Value) (Bw : Nat) (l : List UInt8) (w : World) (hB : Byt w Bw v l) (hBw : Bw ≤ w.heap.size) (hlim : l.length ≤ 140737488355328) (hg : goodC progC l) :
    Calls Try.prog 71 #[v] w fun e w' => ∃ v', e = .returned (.tuple #[.agg #[.int .i64 (gotC progC l).ep, v'], .int .i64 0]) ∧
      w'.ownsRow w.heap.size 3 1 v' (gotC progC l).nodes.length (intCells (ofNats (gotC progC l).nodes)) ∧ Below w.heap.size w w' := by
  have hs0 : ∀ o, (w.alloc o).heap.size = w.heap.size + 1 := by simp
  have HN : Hid (∀ o, Calls Try.prog 45 #[v] (w.alloc o) fun e w' => ∃ h, e = .returned (.pointer (some ⟨h, 0, none⟩)) ∧ w.heap.size + 1 ≤ h ∧ RdrL (w.heap.size + 1) w' h (some l) ∧ Below (w.heap.size + 1) (w.alloc o) w') := by
    intro o
    have := new_any v Bw l (w.alloc o) (hB.keep (((Below.refl _ w).alloc (Nat.le_refl _) o).mono hBw)) (by simp; omega) hlim
    rwa [hs0] at this
  obtain ⟨V1, s1, e1⟩ : ∃ V s, ch1 progC l = (V, s) := ⟨_, _, rfl⟩
  obtain ⟨N, s2, e2⟩ : ∃ V s, ch2 progC l = (V, s) := ⟨_, _, rfl⟩
  obtain ⟨LN, s3, e3⟩ : ∃ V s, ch3 progC l = (V, s) := ⟨_, _, rfl⟩
  have hgot : gotC progC l = ⟨V1, LN⟩ := by simp only [gotC, e1, e3]
  have hgood : goodC progC l ↔ s3 = some [] ∧ ChainV.may ⟨V1, ofNats LN⟩ := by simp only [goodC, hgot, e3, GotC.chain, ofNats]
  have f1 : rNum 1073741824 (some l) = (V1, s1) := e1
  have f2 : rNum 5 s1 = (N, s2) := by rw [← e2, ch2, e1]; rfl
  have f3 : rList 4 N s2 = (LN, s3) := by rw [← e3, ch3, e2]; rfl
  have hNL : LN.length = N := by have := rList_length 4 N s2; rw [f3] at this; exact this
  have m0 : ∀ t, some l = some t → t.length ≤ 140737488355328 := by intro t ht; rw [← Option.some.inj ht]; exact hlim
  have m1 := rNum_len2 1073741824 (some l) _ m0
  rw [f1] at m1
  have m2 := rNum_len2 5 s1 _ m1
  rw [f2] at m2
  have m3 := rList_len 4 _ N s2 m2
  rw [f3] at m3
  have p1 : ∀ (h : Nat) (u : World), RdrL (w.heap.size + 1) u h (some l) → Calls Try.prog 87 #[.pointer (some ⟨h, 0, none⟩), .int .i64 1073741824] u fun e w' => e = .returned (.int .i64 V1) ∧ RdrL (w.heap.size + 1) w' h s1 ∧ u.grownBy w' (some h) := by
    intro h u hR
    have := getint_any h (some l) 1073741824 (by omega) u hR m0
    rwa [f1] at this
  have p2 : ∀ (h : Nat) (fv : Value) (_ : fv = .func (.func 89) #[] #[]) (u : World), RdrL (w.heap.size + 1) u h s1 → Calls Try.prog 88 #[.pointer (some ⟨h, 0, none⟩), .int .i64 5, fv] u fun e w' => ∃ v', e = .returned v' ∧ w'.ownsRow u.heap.size 3 1 v' N (intCells (ofNats LN)) ∧ RdrL (w.heap.size + 1) w' h s3 ∧ u.grownBy w' (some h) := by
    intro h fv hfv u hR
    have := getlist_any h s1 fv hfv u hR m1
    rwa [f2, f3] at this
  have P1 := Lib.hid p1
  have P2 := Lib.hid p2
  have HM3 := Lib.hid m3
  have HNL := Lib.hid hNL
  rw [hgood] at hg
  rw [hgot]
  simp only
  obtain ⟨hE, hm⟩ := hg
  have HV := Lib.hid (decide_eq_true hm).symm
  have HEs := Lib.hid hE
  clear hm hE hB hBw hlim e1 e2 e3 f1 f2 f3 m0 m1 m2 m3 p1 p2 hgot hgood hs0 hNL
  go_enter Try.func71, Try.ntmps71
  go_wp2_with fail
  refine (HN.out _).mono ?_
  rintro e v0 ⟨h, rfl, g1, R0, B0⟩
  have D0 := (ChB.fresh w 0 (.slice none 0 0) 28).keep B0 (Nat.lt_succ_self _)
  have C0 : Hid (Below w.heap.size w v0) := ((Below.refl _ w).alloc (Nat.le_refl _) _).trans (B0.mono (Nat.le_succ _))
  have HD0 := Lib.hid D0
  have l0 := R0.lt
  clear D0 B0
  go_wp2_with fail
  refine (P1.out h _ R0).mono ?_
  rintro e v1 ⟨rfl, R1, G1⟩
  clear R0
  have l1 := G1.size
  go_wp2_with fail
  refine (P2.out h _ rfl _ R1).mono ?_
  rintro e v6 ⟨vl, rfl, O6, R6, G2⟩
  clear R1
  have G := Lib.hid (grownBy_trans G1 G2)
  clear G1 G2
  have C6 : Hid (Below w.heap.size w v6) := C0.out.trans (grown_below G.out (by omega) l0)
  have D6 : ChB v6 w.heap.size 0 (.slice none 0 0) := by
    obtain ⟨t, ht⟩ := HD0.out
    exact ⟨t, (G.out.block w.heap.size (lt_of_block ht) (fun e => by have := Option.some.inj e; omega)).trans ht⟩
  have HD6 := Lib.hid D6
  have lt6 := D6.lt
  have HO6 := Lib.hid O6
  obtain ⟨ao, cp, rfl⟩ := own_shape O6
  clear D6 O6
  have KE := Lib.hid (fun o => rend_any h s3 (v6.alloc o) (rdrl_alloc R6 o) HM3.out)
  clear R6
  have HD7 : Hid (∀ o, ChB (v6.alloc o) w.heap.size 0 (.slice none 0 0)) := fun o => HD6.out.keep ((Below.refl _ _).alloc (Nat.le_refl _) _) lt6
  have C7 : Hid (∀ o, Below w.heap.size w (v6.alloc o)) := fun o => C6.out.alloc (Nat.le_of_lt lt6) _
  have KE0 : Hid (∀ o, Calls Try.prog 49 #[.pointer (some ⟨h, 0, none⟩)] (v6.alloc o) fun e w' => e = .returned (.int .i64 0) ∧ v6.alloc o = w') := by
    intro o
    have := KE.out o
    rw [HEs.out] at this
    exact this
  go_wp2_with fail
  refine (KE0.out _).mono ?_
  rintro e v7 ⟨rfl, rfl⟩
  have O7 : ∀ o, (v6.alloc o).ownsRow v1.heap.size 3 1 (.slice ao N cp) N (intCells (ofNats LN)) := fun o => own_below HO6.out ((Below.refl _ _).alloc (Nat.le_refl _) _)
  have WM := Lib.hid (fun o => maychain_r V1 (.slice ao N cp) (ofNats LN) (v6.alloc o).heap.size (v6.alloc o) (ints_own (O7 o) (Nat.le_refl _)) (Nat.le_refl _) true (show _ = _ from HV.out))
  have HO7 := Lib.hid O7
  clear O7
  go_wp2_with fail
  refine (WM.out _).mono ?_
  rintro e v8 ⟨rfl, B8⟩
  have HD8 := Lib.hid ((HD7.out _).keep B8 (by simp; omega))
  have C8 := Lib.hid ((C7.out _).trans (B8.mono (by simp; omega)))
  have HF := (ChB.fresh v6 V1 (.slice ao N cp) 28).keep B8 (by simp)
  have HO8 := Lib.hid (own_below (HO7.out _) B8)
  obtain ⟨d0, d1⟩ := HF.cells
  clear B8 HF
  go_wp2_with (refine store_ch rfl (.tmp 2) (.tmp 22) rfl w.heap.size rfl V1 ao N cp rfl HD8.out ?_)
  intro w8 H8 G8
  clear d0 d1
  obtain ⟨c0, c1⟩ := H8.cells
  have BF : Hid (Below w.heap.size w w8) := C8.out.trans (grown_below G8 (Nat.le_refl _) HD8.out.lt)
  have HO9 := Lib.hid (own_base (own_grown HO8.out G8 (by omega)) (show w.heap.size ≤ v1.heap.size by omega))
  clear G8
  go_wp2
  refine bodyPost_ret (v := .tuple #[.agg #[.int .i64 V1, .slice ao N cp], .int .i64 0]) (by simp [results, Try.results71, go_sem, c0, c1]) rfl ⟨_, rfl, ?_, BF.out⟩
  rw [HNL.out]
  exact HO9.out
end Go.Proofs.Ytaaffceanjpmbaa
