/-
  THE PROGRAM's ITEMS: chains, put and got. Merged by gen/cat.sh.
-/
import Derived.Test.YtpcbpimlakehcaaItemA
/-! ## ItemCV -/
/-
  A CHAIN AS PLAIN DATA: a slice of ints as a list; which chains may be. No condition.
-/
namespace Go.Proofs.Ytpcbpimlakehcaa
open Go.RowKit

/-- The slice value v holds the ints L, in a block below B. -/
def Ints (w : World) (B : Nat) (v : Value) (L : List Int) : Prop :=
  ∃ ao cap, v = .slice ao L.length cap ∧ L.length ≤ cap ∧ cap ≤ maxLen ∧ (ao = none → cap = 0) ∧
    (L ≠ [] → ∃ b off, ao = some ⟨b, off, none⟩ ∧ b < B ∧ ∀ j, j < L.length → w.cell? ⟨b, off + j, none⟩ = some (.int .i64 (L.getD j 0)))

theorem Ints.keep {w w' : World} {B : Nat} {v : Value} {L : List Int} (h : Ints w B v L) (hb : Below B w w') : Ints w' B v L := by
  obtain ⟨ao, cap, rfl, h1, h2, h3, h4⟩ := h
  refine ⟨ao, cap, rfl, h1, h2, h3, fun hl => ?_⟩
  obtain ⟨b, off, rfl, hbB, hc⟩ := h4 hl
  exact ⟨b, off, rfl, hbB, fun j hj => (hb.cell (p := ⟨b, off + j, none⟩) hbB).trans (hc j hj)⟩
theorem Ints.mono {w : World} {B B' : Nat} {v : Value} {L : List Int} (h : Ints w B v L) (hB : B ≤ B') : Ints w B' v L := by
  obtain ⟨ao, cap, rfl, h1, h2, h3, h4⟩ := h
  refine ⟨ao, cap, rfl, h1, h2, h3, fun hl => ?_⟩
  obtain ⟨b, off, rfl, hbB, hc⟩ := h4 hl
  exact ⟨b, off, rfl, by omega, hc⟩
theorem Ints.none (w : World) (B : Nat) : Ints w B (.slice none 0 0) [] := ⟨_, _, rfl, Nat.le_refl _, Nat.zero_le _, fun _ => rfl, fun h => absurd rfl h⟩

def intCells (L : List Int) : List Value := L.map fun n => .int .i64 n

theorem ints_own {w : World} {base B : Nat} {v : Value} {n : Nat} {L : List Int} (h : w.ownsRow base 3 1 v n (intCells L)) (hB : w.heap.size ≤ B) : Ints w B v L := by
  have hn : L.length = n := by have := h.1; simp [intCells] at this; omega
  subst hn
  rcases h.2 with ⟨rfl, h0⟩ | ⟨g, cap, cur, rfl, hg, hh, hle, hmax, hsz, htake⟩
  · have : L = [] := List.eq_nil_of_length_eq_zero (by simpa using h0)
    subst this
    exact Ints.none _ _
  · refine ⟨some ⟨g, 0, Option.none⟩, cap, rfl, hle, hmax, fun h => (by cases h), fun _ => ⟨g, 0, rfl, by have := lt_of_block hh; omega, fun j hj => ?_⟩⟩
    have hx : (intCells L)[j]? = some (.int .i64 (L.getD j 0)) := by simp [intCells, hj]
    have := h.cells (g := g) rfl j _ hx
    rwa [Addr.add_lit] at this

def nodesOk (L : List Int) : Prop := (∀ x ∈ L, 0 ≤ x ∧ x ≤ 4) ∧ L.Nodup
instance (L : List Int) : Decidable (nodesOk L) := by unfold nodesOk; infer_instance

theorem nodesOk_nil : nodesOk [] := ⟨by simp, List.nodup_nil⟩
theorem nodesOk_snoc (T : List Int) (x : Int) : nodesOk (T ++ [x]) ↔ nodesOk T ∧ 0 ≤ x ∧ x ≤ 4 ∧ x ∉ T := by
  unfold nodesOk
  rw [List.nodup_append]
  simp only [List.mem_append, List.mem_singleton]
  constructor
  · rintro ⟨h1, h2, _, h3⟩
    have := h1 x (.inr rfl)
    exact ⟨⟨fun y hy => h1 y (.inl hy), h2⟩, this.1, this.2, fun hx => h3 x hx x rfl rfl⟩
  · rintro ⟨⟨h1, h2⟩, h3, h4, h5⟩
    refine ⟨?_, h2, by simp, ?_⟩
    · rintro y (hy | rfl)
      · exact h1 y hy
      · exact ⟨h3, h4⟩
    · intro a ha b hb e
      subst hb
      subst e
      exact h5 ha
theorem take_snoc (L : List Int) (k : Nat) (h : k < L.length) : L.take (k + 1) = L.take k ++ [L.getD k 0] := by
  rw [List.take_succ_eq_append_getElem h]
  simp [List.getD, h]
theorem nodesOk_take {L : List Int} (h : nodesOk L) (k : Nat) : nodesOk (L.take k) :=
  ⟨fun x hx => h.1 x (List.mem_of_mem_take hx), h.2.sublist (List.take_sublist _ _)⟩

/-- The program's note of who was seen. -/
def seenCells (T : List Int) : Array Value := #[.bool (decide (0 ∈ T)), .bool (decide (1 ∈ T)), .bool (decide (2 ∈ T)), .bool (decide (3 ∈ T)), .bool (decide (4 ∈ T))]

structure ChainV where
  epoch : Int
  nodes : List Int

def ChainV.may (c : ChainV) : Prop := 0 ≤ c.epoch ∧ c.epoch ≤ 1073741824 ∧ 1 ≤ c.nodes.length ∧ c.nodes.length ≤ 5 ∧ nodesOk c.nodes
instance (c : ChainV) : Decidable c.may := by unfold ChainV.may; infer_instance

set_option maxHeartbeats 2000000 in
set_option maxRecDepth 100000 in
theorem maynodes_some (b off n cap : Nat) (L : List Int) (w : World) (hn : L.length = n) (hm : n ≤ 5) (hbw : b < w.heap.size) (hc : ∀ j, j < n → w.cell? ⟨b, off + j, none⟩ = some (.int .i64 (L.getD j 0))) :
    Calls Try.prog 80 #[.slice (some ⟨b, off, none⟩) n cap] w fun e w' => e = .returned (.bool (decide (nodesOk L))) ∧ Below w.heap.size w w' := by
  have HC := Lib.hid hc
  have HN := Lib.hid hn
  obtain ⟨R, hR⟩ : ∃ R, R = decide (nodesOk L) := ⟨_, rfl⟩
  rw [← hR]
  have HR := Lib.hid hR
  clear hc hn hR
  go_enter Try.func80, Try.ntmps80
  go_wp2
  go_loopw [8] (fun vi wr => ∃ k : Nat, k ≤ n ∧ vi = .int .i64 k ∧ nodesOk (L.take k) ∧ (∃ e, wr.heap[w.heap.size]? = some (.cells (seenCells (L.take k)) e (0, 0))) ∧ Below w.heap.size w wr)
    (fun vi _ => n - (intOf vi).toNat)
  case atStart =>
    exact ⟨0, by omega, rfl, nodesOk_nil, ⟨_, heap_alloc_new w _⟩, (Below.refl _ _).alloc (Nat.le_refl _) _⟩
  case round =>
    obtain ⟨k, hk, rfl, hok, ⟨e0, hb0⟩, hnx⟩ := hrel
    have HK := Lib.hid hok
    have H0 := Lib.hid hb0
    clear hok
    by_cases hlt : k < n
    · obtain ⟨x, hx⟩ : ∃ x, x = L.getD k 0 := ⟨_, rfl⟩
      have hcell : wr.cell? ⟨b, off + k, none⟩ = some (.int .i64 x) := by
        rw [hx, ← HC.out k hlt]
        exact hnx.cell (p := ⟨b, off + k, none⟩) hbw
      have HT : Hid (L.take (k + 1) = L.take k ++ [x]) := by show _ = _; rw [hx]; exact take_snoc L k (by rw [HN.out]; exact hlt)
      clear hx
      by_cases hin : 0 ≤ x ∧ x ≤ 4
      · obtain ⟨h1, h2⟩ := hin
        have W := Lib.hid (fun u => within_yes x 0 4 u h1 h2)
        by_cases hmem : x ∈ L.take k
        · have HF : Hid (R = false) := by
            show _ = _
            rw [HR.out]
            refine decide_eq_false fun h => ?_
            have := nodesOk_take h (k + 1)
            rw [HT.out, nodesOk_snoc] at this
            exact this.2.2.2 hmem
          rcases (show x = 0 ∨ x = 1 ∨ x = 2 ∨ x = 3 ∨ x = 4 by omega) with rfl | rfl | rfl | rfl | rfl
          case' inl => have s0 : wr.cell? ⟨w.heap.size, 0, none⟩ = some (.bool true) := by rw [cell_of_row wr _ 0 _ _ _ hb0, ← decide_eq_true hmem]; rfl
          case' inr.inl => have s0 : wr.cell? ⟨w.heap.size, 1, none⟩ = some (.bool true) := by rw [cell_of_row wr _ 1 _ _ _ hb0, ← decide_eq_true hmem]; rfl
          case' inr.inr.inl => have s0 : wr.cell? ⟨w.heap.size, 2, none⟩ = some (.bool true) := by rw [cell_of_row wr _ 2 _ _ _ hb0, ← decide_eq_true hmem]; rfl
          case' inr.inr.inr.inl => have s0 : wr.cell? ⟨w.heap.size, 3, none⟩ = some (.bool true) := by rw [cell_of_row wr _ 3 _ _ _ hb0, ← decide_eq_true hmem]; rfl
          case' inr.inr.inr.inr => have s0 : wr.cell? ⟨w.heap.size, 4, none⟩ = some (.bool true) := by rw [cell_of_row wr _ 4 _ _ _ hb0, ← decide_eq_true hmem]; rfl
          all_goals
            clear h1 h2 hb0 hmem
            go_wp2_with fail
            refine (W.out _).mono ?_
            rintro e w1 ⟨rfl, rfl⟩
            go_wp2
            go_returns
            exact ⟨ret_bool HF.out.symm, hnx⟩
        · have hok' : Hid (nodesOk (L.take (k + 1))) := by
            show nodesOk _
            rw [HT.out, nodesOk_snoc]
            exact ⟨HK.out, h1, h2, hmem⟩
          rcases (show x = 0 ∨ x = 1 ∨ x = 2 ∨ x = 3 ∨ x = 4 by omega) with rfl | rfl | rfl | rfl | rfl
          case' inl =>
            have s0 : wr.cell? ⟨w.heap.size, 0, none⟩ = some (.bool false) := by rw [cell_of_row wr _ 0 _ _ _ hb0, ← decide_eq_false hmem]; rfl
            have z0 : wr.frozen? ⟨w.heap.size, 0, none⟩ = false := frozen_of_row wr _ 0 _ _ hb0
          case' inr.inl =>
            have s0 : wr.cell? ⟨w.heap.size, 1, none⟩ = some (.bool false) := by rw [cell_of_row wr _ 1 _ _ _ hb0, ← decide_eq_false hmem]; rfl
            have z0 : wr.frozen? ⟨w.heap.size, 1, none⟩ = false := frozen_of_row wr _ 1 _ _ hb0
          case' inr.inr.inl =>
            have s0 : wr.cell? ⟨w.heap.size, 2, none⟩ = some (.bool false) := by rw [cell_of_row wr _ 2 _ _ _ hb0, ← decide_eq_false hmem]; rfl
            have z0 : wr.frozen? ⟨w.heap.size, 2, none⟩ = false := frozen_of_row wr _ 2 _ _ hb0
          case' inr.inr.inr.inl =>
            have s0 : wr.cell? ⟨w.heap.size, 3, none⟩ = some (.bool false) := by rw [cell_of_row wr _ 3 _ _ _ hb0, ← decide_eq_false hmem]; rfl
            have z0 : wr.frozen? ⟨w.heap.size, 3, none⟩ = false := frozen_of_row wr _ 3 _ _ hb0
          case' inr.inr.inr.inr =>
            have s0 : wr.cell? ⟨w.heap.size, 4, none⟩ = some (.bool false) := by rw [cell_of_row wr _ 4 _ _ _ hb0, ← decide_eq_false hmem]; rfl
            have z0 : wr.frozen? ⟨w.heap.size, 4, none⟩ = false := frozen_of_row wr _ 4 _ _ hb0
          all_goals
            clear h1 h2 hb0 hmem
            go_wp2_with fail
            refine (W.out _).mono ?_
            rintro e w1 ⟨rfl, rfl⟩
            go_wp2
            go_roundw
            case rel =>
              refine ⟨k + 1, by omega, by go_num, hok'.out, ⟨e0, ?_⟩, hnx.setCell (by simp) _⟩
              rw [heap_setCell_same _ _ _ _ _ _ H0.out, HT.out]
              simp [seenCells]
            case measure => simp [intOf]; omega
      · have W := Lib.hid (fun u => within_no x 0 4 u (by omega))
        have HF : Hid (R = false) := by
          show _ = _
          rw [HR.out]
          refine decide_eq_false fun h => ?_
          have := nodesOk_take h (k + 1)
          rw [HT.out, nodesOk_snoc] at this
          exact hin ⟨this.2.1, this.2.2.1⟩
        clear hin hb0
        go_wp2_with fail
        refine (W.out _).mono ?_
        rintro e w1 ⟨rfl, rfl⟩
        go_wp2
        go_returns
        exact ⟨ret_bool HF.out.symm, hnx⟩
    · have hkn : k = n := by omega
      have HF : Hid (R = true) := by
        show _ = _
        rw [HR.out]
        refine decide_eq_true ?_
        have := HK.out
        rwa [hkn, List.take_of_length_le (by rw [HN.out]; omega)] at this
      clear hkn hb0
      go_wp2
      go_returns
      exact ⟨ret_bool HF.out.symm, hnx⟩
end Go.Proofs.Ytpcbpimlakehcaa

/-! ## ItemCMay -/
/-
  THE PROGRAM's MayChain AND PutChain. No condition but that the chain can be read, and lengths.
-/
namespace Go.Proofs.Ytpcbpimlakehcaa
open Go.RowKit

/-- Block b holds a chain. -/
def ChB (w : World) (b : Nat) (ep : Int) (v : Value) : Prop := ∃ e, w.heap[b]? = some (.cells #[.int .i64 ep, v] e (0, 0))
theorem ChB.cells {w : World} {b : Nat} {ep : Int} {v : Value} (h : ChB w b ep v) : w.cell? ⟨b, 0, none⟩ = some (.int .i64 ep) ∧ w.cell? ⟨b, 1, none⟩ = some v := by
  obtain ⟨e, h⟩ := h
  exact ⟨cell_of_two0 h, cell_of_two1 h⟩
theorem ChB.free {w : World} {b : Nat} {ep : Int} {v : Value} (h : ChB w b ep v) (o : Nat) : w.frozen? ⟨b, o, none⟩ = false := by
  obtain ⟨e, h⟩ := h
  exact free_of_two h o
theorem ChB.lt {w : World} {b : Nat} {ep : Int} {v : Value} (h : ChB w b ep v) : b < w.heap.size := by
  obtain ⟨_, h⟩ := h
  exact lt_of_block h
theorem ChB.keep {w w' : World} {b B : Nat} {ep : Int} {v : Value} (h : ChB w b ep v) (hb : Below B w w') (hB : b < B) : ChB w' b ep v := by
  obtain ⟨e, h⟩ := h
  exact ⟨e, (hb.block b hB).trans h⟩
theorem ChB.fresh (w : World) (ep : Int) (v : Value) (e : TypeId) : ChB (w.alloc (.cells #[.int .i64 ep, v] e)) w.heap.size ep v := ⟨e, heap_alloc_new w _⟩

set_option maxHeartbeats 2000000 in
set_option maxRecDepth 100000 in
theorem maychain_r (ep : Int) (v : Value) (L : List Int) (B : Nat) (w : World) (hI : Ints w B v L) (hBw : B ≤ w.heap.size) (R : Bool) (HR : Hid (R = decide (ChainV.may ⟨ep, L⟩))) :
    Calls Try.prog 57 #[.agg #[.int .i64 ep, v]] w fun e w' => e = .returned (.bool R) ∧ Below w.heap.size w w' := by
  obtain ⟨ao, cap, rfl, h1, h2, h3, h4⟩ := hI
  obtain ⟨n, hn⟩ : ∃ n, L.length = n := ⟨_, rfl⟩
  have hmay : ChainV.may ⟨ep, L⟩ ↔ 0 ≤ ep ∧ ep ≤ 1073741824 ∧ 1 ≤ n ∧ n ≤ 5 ∧ nodesOk L := by unfold ChainV.may; simp only; rw [hn]
  rw [hn] at h1 h4 ⊢
  by_cases he : 0 ≤ ep ∧ ep ≤ 1073741824
  case neg =>
    have hr : R = false := by rw [HR.out]; exact decide_eq_false (by rw [hmay]; rintro ⟨a, b, _⟩; exact he ⟨a, b⟩)
    subst hr
    have W0 := Lib.hid (fun u => within_no ep 0 1073741824 u (by omega))
    clear he HR h4 hmay
    go_enter Try.func57, Try.ntmps57
    go_wp2_with fail
    refine (W0.out _).mono ?_
    rintro e w1 ⟨rfl, rfl⟩
    go_wp2
    go_returns
    exact ⟨rfl, by first | exact (Below.refl _ _).alloc (Nat.le_refl _) _ | go_grown⟩
  have W0 := Lib.hid (fun u => within_yes ep 0 1073741824 u he.1 he.2)
  by_cases hl : 1 ≤ (n : Int) ∧ (n : Int) ≤ 5
  case neg =>
    have hr : R = false := by rw [HR.out]; exact decide_eq_false (by rw [hmay]; rintro ⟨_, _, a, b, _⟩; exact hl ⟨by omega, by omega⟩)
    subst hr
    have W1 := Lib.hid (fun u => within_no (n : Int) 1 5 u (by omega))
    clear he HR h4 hl hmay
    go_enter Try.func57, Try.ntmps57
    go_wp2_with fail
    refine (W0.out _).mono ?_
    rintro e w1 ⟨rfl, rfl⟩
    go_wp2_with fail
    refine (W1.out _).mono ?_
    rintro e w1 ⟨rfl, rfl⟩
    go_wp2
    go_returns
    exact ⟨rfl, by first | exact (Below.refl _ _).alloc (Nat.le_refl _) _ | go_grown⟩
  have W1 := Lib.hid (fun u => within_yes (n : Int) 1 5 u hl.1 hl.2)
  obtain ⟨b, off, rfl, hbB, hc⟩ := h4 (by intro h; rw [h] at hn; simp at hn; omega)
  have hr : R = decide (nodesOk L) := by
    rw [HR.out, decide_eq_decide, hmay]
    constructor
    · rintro ⟨_, _, _, _, h⟩; exact h
    · intro h; exact ⟨he.1, he.2, by omega, by omega, h⟩
  have WN : Hid (∀ o, Calls Try.prog 80 #[.slice (some ⟨b, off, none⟩) n cap] (w.alloc o) fun e w' => e = .returned (.bool R) ∧ Below (w.heap.size + 1) (w.alloc o) w') := by
    intro o
    have hbel : Below w.heap.size w (w.alloc o) := (Below.refl _ w).alloc (Nat.le_refl _) _
    have := maynodes_some b off n cap L (w.alloc o) hn (by omega) (by simp; omega) (fun j hj => (hbel.cell (p := ⟨b, off + j, none⟩) (show b < w.heap.size by omega)).trans (hc j hj))
    rw [hr]
    simpa using this
  clear he hl HR hr hc h4 hmay
  go_enter Try.func57, Try.ntmps57
  go_wp2_with fail
  refine (W0.out _).mono ?_
  rintro e w1 ⟨rfl, rfl⟩
  go_wp2_with fail
  refine (W1.out _).mono ?_
  rintro e w1 ⟨rfl, rfl⟩
  go_wp2_with fail
  refine (WN.out _).mono ?_
  rintro e w1 ⟨rfl, B1⟩
  have BF : Hid (Below w.heap.size w w1) := ((Below.refl _ w).alloc (Nat.le_refl _) _).trans (B1.mono (by omega))
  clear B1
  go_wp2
  go_returns
  exact ⟨rfl, BF.out⟩

/-- The bytes of a row of small numbers. -/
def nodeBytes (L : List Nat) : List UInt8 := L.flatMap Lib.uvarint
def chainBytes (ep : Nat) (L : List Nat) : List UInt8 := Lib.uvarint ep ++ (Lib.uvarint L.length ++ nodeBytes L)

theorem nodeBytes_take (L : List Nat) (k : Nat) (h : k < L.length) : nodeBytes (L.take (k + 1)) = nodeBytes (L.take k) ++ Lib.uvarint (L.getD k 0) := by
  unfold nodeBytes
  rw [List.take_succ_eq_append_getElem h, List.flatMap_append]
  simp [List.getD, h]
theorem nodeBytes_len (L : List Nat) (h : ∀ x ∈ L, x ≤ 9223372036854775807) : (nodeBytes L).length ≤ 10 * L.length := by
  induction L with
  | nil => simp [nodeBytes]
  | cons x r ih =>
    have h1 := Lib.uvarint_length64 (show x < 18446744073709551616 by have := h x (by simp); omega)
    have h2 := ih (fun y hy => h y (List.mem_cons_of_mem _ hy))
    simp only [nodeBytes, List.flatMap_cons, List.length_append, List.length_cons] at h2 ⊢
    omega

end Go.Proofs.Ytpcbpimlakehcaa

/-! ## ItemCPut -/
/-
  THE PROGRAM's PutChain: nothing of a chain that may not be, else its bytes. No condition but that the chain can be read.
-/
namespace Go.Proofs.Ytpcbpimlakehcaa
open Go.RowKit

theorem toNat_getD (L : List Int) (h : ∀ x ∈ L, 0 ≤ x) (j : Nat) : L.getD j 0 = (((L.map Int.toNat).getD j 0 : Nat) : Int) := by
  by_cases hj : j < L.length
  · simp only [List.getD, List.getElem?_map, List.getElem?_eq_getElem hj, Option.map_some, Option.getD_some]
    have := h L[j] (List.getElem_mem hj)
    omega
  · simp [List.getD, List.getElem?_eq_none (show L.length ≤ j by omega)]

/-- The bytes of a chain that may be. -/
def ChainV.bytes (c : ChainV) : List UInt8 := chainBytes c.epoch.toNat (c.nodes.map Int.toNat)

end Go.Proofs.Ytpcbpimlakehcaa

/-! ## ItemCMath -/
/-
  WHAT A READER FINDS OF A CHAIN in any bytes: pure facts.
-/
namespace Go.Proofs.Ytpcbpimlakehcaa
open Go.RowKit

/-- So many numbers read one behind the other. -/
def rList (M : Nat) : Nat → Option (List UInt8) → List Nat × Option (List UInt8)
  | 0, st => ([], st)
  | k + 1, st => ((rNum M st).1 :: (rList M k (rNum M st).2).1, (rList M k (rNum M st).2).2)

theorem rList_length (M : Nat) : ∀ (k : Nat) (st : Option (List UInt8)), (rList M k st).1.length = k := by
  intro k
  induction k with
  | zero => intro st; rfl
  | succ k ih => intro st; simp only [rList, List.length_cons, ih]

theorem rList_got (M : Nat) : ∀ (k : Nat) (st : Option (List UInt8)) (r : List UInt8), (rList M k st).2 = some r → st = some (nodeBytes (rList M k st).1 ++ r) := by
  intro k
  induction k with
  | zero => intro st r h; simpa [rList, nodeBytes] using h
  | succ k ih =>
    intro st r h
    simp only [rList] at h ⊢
    have h1 := ih _ _ h
    have h2 : rNum M st = ((rNum M st).1, some (nodeBytes (rList M k (rNum M st).2).1 ++ r)) := by rw [← h1]
    have h3 := (rNum_got h2).1
    rw [← List.append_assoc] at h3
    exact h3

theorem rList_put (M : Nat) (hM : M < 18446744073709551616) : ∀ (L : List Nat) (r : List UInt8), (∀ x ∈ L, x ≤ M) → rList M L.length (some (nodeBytes L ++ r)) = (L, some r) := by
  intro L
  induction L with
  | nil => intro r _; simp [rList, nodeBytes]
  | cons x t ih =>
    intro r h
    have hx := h x (by simp)
    have e : nodeBytes (x :: t) ++ r = Lib.uvarint x ++ (nodeBytes t ++ r) := by simp [nodeBytes, List.append_assoc]
    have h1 := rNum_put M x (by omega) hx (nodeBytes t ++ r)
    rw [e]
    simp only [List.length_cons, rList, h1, ih r (fun y hy => h y (List.mem_cons_of_mem _ hy))]

structure CBounds where
  ep : Nat
  cnt : Nat
  el : Nat

def ch1 (B : CBounds) (l : List UInt8) := rNum B.ep (some l)
def ch2 (B : CBounds) (l : List UInt8) := rNum B.cnt (ch1 B l).2
def ch3 (B : CBounds) (l : List UInt8) := rList B.el (ch2 B l).1 (ch2 B l).2

structure GotC where
  ep : Nat
  nodes : List Nat

def gotC (B : CBounds) (l : List UInt8) : GotC := ⟨(ch1 B l).1, (ch3 B l).1⟩
def GotC.bytes (g : GotC) : List UInt8 := chainBytes g.ep g.nodes
def GotC.chain (g : GotC) : ChainV := ⟨g.ep, g.nodes.map fun (n : Nat) => (n : Int)⟩
def CBounds.wide (B : CBounds) : Prop := 1073741824 ≤ B.ep ∧ 5 ≤ B.cnt ∧ 4 ≤ B.el ∧ B.el < 18446744073709551616
def goodC (B : CBounds) (l : List UInt8) : Prop := (ch3 B l).2 = some [] ∧ (gotC B l).chain.may
instance (B : CBounds) (l : List UInt8) : Decidable (goodC B l) := by unfold goodC; infer_instance

theorem gotC_bytes {B : CBounds} {l r : List UInt8} (h : (ch3 B l).2 = some r) : l = (gotC B l).bytes ++ r := by
  have e3 := rList_got _ _ _ _ h
  have split1 : ∀ {α : Type} {x : α × Option (List UInt8)} {t : List UInt8}, x.2 = some t → x = (x.1, some t) := by intro α x t h; rw [← h]
  have e2 := (rNum_got (split1 e3)).1
  have e1 := (rNum_got (split1 e2)).1
  have hl : (ch3 B l).1.length = (ch2 B l).1 := rList_length _ _ _
  have := Option.some.inj e1
  conv => lhs; rw [this]
  simp only [GotC.bytes, gotC, chainBytes, List.append_assoc]
  rw [hl]
  rfl

theorem gotC_put {B : CBounds} (hB : B.wide) (g : GotC) (hm : g.chain.may) (r : List UInt8) : (ch3 B (g.bytes ++ r)).2 = some r ∧ gotC B (g.bytes ++ r) = g := by
  obtain ⟨b1, b2, b3, b4⟩ := hB
  obtain ⟨ep, L⟩ := g
  obtain ⟨m1, m2, m3, m4, m5⟩ := hm
  simp only [GotC.chain, List.length_map] at m1 m2 m3 m4 m5
  have hel : ∀ x ∈ L, x ≤ B.el := by
    intro x hx
    have := m5.1 (x : Int) (List.mem_map.2 ⟨x, hx, rfl⟩)
    omega
  have e1 : ch1 B (GotC.bytes ⟨ep, L⟩ ++ r) = (ep, some (Lib.uvarint L.length ++ (nodeBytes L ++ r))) := by
    simp only [ch1, GotC.bytes, chainBytes, List.append_assoc]
    exact rNum_put _ _ (by omega) (by omega) _
  have e2 : ch2 B (GotC.bytes ⟨ep, L⟩ ++ r) = (L.length, some (nodeBytes L ++ r)) := by
    simp only [ch2, e1]
    exact rNum_put _ _ (by omega) (by omega) _
  have e3 : ch3 B (GotC.bytes ⟨ep, L⟩ ++ r) = (L, some r) := by
    simp only [ch3, e2]
    exact rList_put _ b4 L r hel
  refine ⟨by rw [e3], ?_⟩
  simp only [gotC, e1, e3]

theorem goodC_put {B : CBounds} (hB : B.wide) (g : GotC) (hm : g.chain.may) : goodC B g.bytes ∧ gotC B g.bytes = g := by
  have h := gotC_put hB g hm []
  rw [List.append_nil] at h
  exact ⟨⟨h.1, by rw [h.2]; exact hm⟩, h.2⟩
theorem goodC_got {B : CBounds} {l : List UInt8} (h : goodC B l) : l = (gotC B l).bytes := by
  have := gotC_bytes h.1
  rwa [List.append_nil] at this
theorem goodC_same {B C : CBounds} (hC : C.wide) {l : List UInt8} (h : goodC B l) : goodC C l ∧ gotC C l = gotC B l := by
  have hb := goodC_got h
  have := goodC_put hC (gotC B l) h.2
  rw [← hb] at this
  exact this
theorem chain_apart (g h : GotC) (hg : g.chain.may) (hh : h.chain.may) (e : g.bytes = h.bytes) : g = h := by
  have w : CBounds.wide ⟨1073741824, 5, 4⟩ := by unfold CBounds.wide; decide
  have h1 := (goodC_put w g hg).2
  have h2 := (goodC_put w h hh).2
  rw [← h1, ← h2, e]

/-- A chain that may be, as numbers. -/
def ChainV.got (c : ChainV) : GotC := ⟨c.epoch.toNat, c.nodes.map Int.toNat⟩
theorem ChainV.got_chain (c : ChainV) (h : c.may) : c.got.chain = c := by
  obtain ⟨ep, L⟩ := c
  obtain ⟨m1, m2, m3, m4, m5⟩ := h
  simp only at m1 m5
  simp only [ChainV.got, GotC.chain]
  have h1 : ((ep.toNat : Nat) : Int) = ep := by omega
  have h2 : (L.map Int.toNat).map (fun (n : Nat) => (n : Int)) = L := by
    rw [List.map_map]
    conv => rhs; rw [← List.map_id L]
    apply List.map_congr_left
    intro x hx
    have := m5.1 x hx
    simp only [Function.comp, id]
    omega
  rw [h1, h2]
theorem ChainV.got_bytes (c : ChainV) : c.got.bytes = c.bytes := rfl

theorem chain_len (g : GotC) (hm : g.chain.may) : g.bytes.length ≤ 100 := by
  obtain ⟨ep, L⟩ := g
  obtain ⟨m1, m2, m3, m4, m5⟩ := hm
  simp only [GotC.chain, List.length_map] at m1 m2 m3 m4 m5
  have u1 := Lib.uvarint_length64 (show ep < 18446744073709551616 by omega)
  have u2 := Lib.uvarint_length64 (show L.length < 18446744073709551616 by omega)
  have u3 := nodeBytes_len L (fun x hx => by
    have := m5.1 (x : Int) (List.mem_map.2 ⟨x, hx, rfl⟩)
    omega)
  simp only [GotC.bytes, chainBytes, List.length_append]
  omega
end Go.Proofs.Ytpcbpimlakehcaa

/-! ## ItemCGet -/
/-
  THE PROGRAM's getNode, getList, GetChain: the chain that the bytes are, or none. No condition but lengths.
-/
namespace Go.Proofs.Ytpcbpimlakehcaa
open Go.RowKit

theorem info_int : (Try.prog.info? 3).map (fun i => (i.zero, i.size, i.bytes)) = some (some (.int .i64 0), 1, 8) := by kernel_rfl

theorem src_one_int (w : World) (v : Value) (e : TypeId) (h1 : v.oneCell' = true) : Src Try.prog 1 22 (.slice (some ⟨w.heap.size, 0, none⟩) 1 1) 1 [v] (w.alloc (.cells #[v] e)) :=
  Src.ofSlice _ Try.underlying22 ⟨w.heap.size, 0, none⟩ 1 1 [v] rfl
    (by intro j u hj; match j, hj with | 0, hj => simp at hj; subst hj; simp [Addr.add])
    (by intro u hu; simp at hu; subst hu; exact h1)

/-- The numbers as ints. -/
def ofNats (L : List Nat) : List Int := L.map fun (n : Nat) => (n : Int)

/-- The reader behind k steps of the list. -/
def rAt (M : Nat) : Nat → Option (List UInt8) → Option (List UInt8)
  | 0, st => st
  | k + 1, st => rAt M k (rNum M st).2
/-- The list step by step from the left. -/
theorem rList_snoc (M : Nat) : ∀ (k : Nat) (st : Option (List UInt8)), rList M (k + 1) st = ((rList M k st).1 ++ [(rNum M (rList M k st).2).1], (rNum M (rList M k st).2).2) := by
  intro k
  induction k with
  | zero => intro st; rfl
  | succ k ih =>
    intro st
    have h := ih (rNum M st).2
    show ((rNum M st).1 :: (rList M (k + 1) (rNum M st).2).1, (rList M (k + 1) (rNum M st).2).2) = _
    rw [h]
    rfl
theorem rList_len (M : Nat) (b : Nat) : ∀ (k : Nat) (st : Option (List UInt8)), (∀ l, st = some l → l.length ≤ b) → ∀ l, (rList M k st).2 = some l → l.length ≤ b := by
  intro k
  induction k with
  | zero => intro st h l hl; exact h l hl
  | succ k ih => intro st h l hl; exact ih _ (rNum_len2 M st b h) l hl

theorem below_grown2 {w w' : World} (h : Below w.heap.size w w') : w.grownBy w' none := ⟨h.os, h.tape, h.output, h.size, fun k hk _ => h.block k hk⟩
theorem grown_mix {a b c : World} {h : Nat} {row : Option Nat} (h1 : a.grownBy b (some h)) (h2 : b.grownBy c row) (hr : ∀ g, row = some g → a.heap.size ≤ g) : a.grownBy c (some h) :=
  ⟨h2.os.trans h1.os, h2.tape.trans h1.tape, h2.output.trans h1.output, Nat.le_trans h1.size h2.size, fun k hk hne =>
    (h2.block k (Nat.lt_of_lt_of_le hk h1.size) (fun e => by have := hr k e.symm; omega)).trans (h1.block k hk hne)⟩

end Go.Proofs.Ytpcbpimlakehcaa

/-! ## ItemCGet2 -/
/-
  THE PROGRAM's GetChain: the chain that the bytes are, or none. No condition but lengths.
-/
namespace Go.Proofs.Ytpcbpimlakehcaa
open Go.RowKit

theorem own_grown {w w' : World} {base r : Nat} {e : TypeId} {size : Nat} {v : Value} {n : Nat} {xs : List Value} (h : w.ownsRow base e size v n xs) (hg : w.grownBy w' (some r)) (hr : r < base) : w'.ownsRow base e size v n xs := by
  refine ⟨h.1, ?_⟩
  rcases h.2 with hz | ⟨g, cap, cur, hv, hgb, hh, rest⟩
  · exact .inl hz
  · exact .inr ⟨g, cap, cur, hv, hgb, (hg.block g (lt_of_block hh) (fun e => by have := Option.some.inj e; omega)).trans hh, rest⟩
theorem own_below {w w' : World} {base : Nat} {e : TypeId} {size : Nat} {v : Value} {n : Nat} {xs : List Value} (h : w.ownsRow base e size v n xs) (hb : Below w.heap.size w w') : w'.ownsRow base e size v n xs := by
  refine ⟨h.1, ?_⟩
  rcases h.2 with hz | ⟨g, cap, cur, hv, hgb, hh, rest⟩
  · exact .inl hz
  · exact .inr ⟨g, cap, cur, hv, hgb, (hb.block g (lt_of_block hh)).trans hh, rest⟩

theorem size_Chain : (Try.prog.info? 24).map (·.size) = some 2 := by kernel_rfl

/-- A chain stored whole into a block that holds one. -/
theorem store_ch {ops : Array Oper} {rest : List Oper} {o : Oper} {a : Act} {w : World} {Q : Exit → Act → World → Prop} (hgd : o.guard = none) (x y : Operand) (ho : o.op = .store 24 x y)
    (g : Nat) (hx : a.eval x = .pointer (some ⟨g, 0, none⟩)) (ep : Int) (ao : Option Addr) (n cap : Nat) (hy : a.eval y = .agg #[.int .i64 ep, .slice ao n cap])
    {ep0 : Int} {v0 : Value} (hg : ChB w g ep0 v0)
    (h : ∀ w', ChB w' g ep (.slice ao n cap) → w.grownBy w' (some g) → wpList Try.prog ops Q rest (a.put o.dst undef) w') : wpList Try.prog ops Q (o :: rest) a w := by
  obtain ⟨e, hb⟩ := hg
  refine wpList_store_row hgd 24 x y ho g #[.int .i64 ep, .slice ao n cap] hx hy e _ hb size_Chain rfl (by simp [Value.oneCell']) (h _ ⟨e, ?_⟩ ?_)
  · exact setRow_heap w g _ _ e _ hb
  · exact ⟨rfl, rfl, rfl, by simp, fun k _ hk => setRow_other w g k _ (fun e => hk (by rw [e]))⟩

def progC : CBounds := ⟨1073741824, 5, 4⟩
theorem progC_wide : progC.wide := by unfold CBounds.wide progC; decide

end Go.Proofs.Ytpcbpimlakehcaa
