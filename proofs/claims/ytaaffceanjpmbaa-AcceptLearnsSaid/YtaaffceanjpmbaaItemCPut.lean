/-
  THE PROGRAM's PutChain: nothing of a chain that may not be, else its bytes. No condition but that the chain can be read.
-/
import Derived.Test.YtaaffceanjpmbaaItemCMay
namespace Go.Proofs.Ytaaffceanjpmbaa
open Go.RowKit

theorem toNat_getD (L : List Int) (h : ∀ x ∈ L, 0 ≤ x) (j : Nat) : L.getD j 0 = (((L.map Int.toNat).getD j 0 : Nat) : Int) := by
  by_cases hj : j < L.length
  · simp only [List.getD, List.getElem?_map, List.getElem?_eq_getElem hj, Option.map_some, Option.getD_some]
    have := h L[j] (List.getElem_mem hj)
    omega
  · simp [List.getD, List.getElem?_eq_none (show L.length ≤ j by omega)]

/-- The bytes of a chain that may be. -/
def ChainV.bytes (c : ChainV) : List UInt8 := chainBytes c.epoch.toNat (c.nodes.map Int.toNat)

set_option maxHeartbeats 1000000 in
theorem putchain_no (ep : Int) (v : Value) (L : List Int) (B : Nat) (w : World) (hI : Ints w B v L) (hBw : B ≤ w.heap.size) (hm : ¬ ChainV.may ⟨ep, L⟩) :
    Calls Try.prog 64 #[.agg #[.int .i64 ep, v]] w fun e w' => e = .returned (.tuple #[.slice none 0 0, .int .i64 1]) ∧ Below w.heap.size w w' := by
  have W : Hid (∀ o, Calls Try.prog 35 #[.agg #[.int .i64 ep, v]] (w.alloc o) fun e w' => e = .returned (.bool false) ∧ Below (w.alloc o).heap.size (w.alloc o) w') :=
    fun o => maychain_r ep v L B (w.alloc o) (hI.keep (((Below.refl _ w).alloc (Nat.le_refl _) o).mono hBw)) (by simp; omega) false (show _ = _ from (decide_eq_false hm).symm)
  obtain ⟨ao, cap, rfl, _, _, _, _⟩ := hI
  clear hm
  go_enter Try.func64, Try.ntmps64
  go_wp2_with fail
  refine (W.out _).mono ?_
  rintro e w1 ⟨rfl, hb⟩
  have HB := Lib.hid hb
  clear hb
  go_wp2
  go_returns
  exact ⟨rfl, ((Below.refl _ w).alloc (Nat.le_refl _) _).trans (HB.out.mono (by simp))⟩

set_option maxHeartbeats 2000000 in
set_option maxRecDepth 100000 in
theorem putchain_yes (ep : Int) (v : Value) (L : List Int) (B : Nat) (w : World) (hI : Ints w B v L) (hBw : B ≤ w.heap.size) (hm : ChainV.may ⟨ep, L⟩) :
    Calls Try.prog 64 #[.agg #[.int .i64 ep, v]] w fun e w' => ∃ v', e = .returned (.tuple #[v', .int .i64 0]) ∧
      w'.ownsRow w.heap.size 5 1 v' (ChainV.bytes ⟨ep, L⟩).length (Lib.byteCells (ChainV.bytes ⟨ep, L⟩)) ∧ Below w.heap.size w w' := by
  have W : Hid (∀ o, Calls Try.prog 35 #[.agg #[.int .i64 ep, v]] (w.alloc o) fun e w' => e = .returned (.bool true) ∧ Below (w.alloc o).heap.size (w.alloc o) w') :=
    fun o => maychain_r ep v L B (w.alloc o) (hI.keep (((Below.refl _ w).alloc (Nat.le_refl _) o).mono hBw)) (by simp; omega) true (show _ = _ from (decide_eq_true hm).symm)
  obtain ⟨m1, m2, m3, m4, m5⟩ := hm
  simp only at m1 m2 m3 m4 m5
  obtain ⟨ep', rfl⟩ : ∃ n : Nat, ep = n := ⟨ep.toNat, by omega⟩
  obtain ⟨LN, hLN⟩ : ∃ LN, LN = L.map Int.toNat := ⟨_, rfl⟩
  have hget : ∀ j, L.getD j 0 = ((LN.getD j 0 : Nat) : Int) := by rw [hLN]; exact toNat_getD L (fun x hx => (m5.1 x hx).1)
  have hsmall : ∀ x ∈ LN, x ≤ 4 := by
    rw [hLN]
    intro x hx
    obtain ⟨y, hy, rfl⟩ := List.mem_map.1 hx
    have := m5.1 y hy
    omega
  have hbytes : ChainV.bytes ⟨(ep' : Int), L⟩ = chainBytes ep' LN := by rw [hLN]; rfl
  rw [hbytes]
  have hlen : LN.length = L.length := by rw [hLN, List.length_map]
  obtain ⟨ao, cap, rfl, h1, h2, h3, h4⟩ := hI
  obtain ⟨b, off, rfl, hbB, hc⟩ := h4 (by intro h; rw [h] at m3; simp at m3)
  obtain ⟨n, hn⟩ : ∃ n, L.length = n := ⟨_, rfl⟩
  rw [hn] at W h1 m3 m4 hlen hc ⊢
  have HCC : Hid (∀ j, j < n → w.cell? ⟨b, off + j, none⟩ = some (.int .i64 (LN.getD j 0 : Nat))) := fun j hj => by rw [hc j hj, hget]
  have hul := Lib.uvarint_length64 (show ep' < 18446744073709551616 by omega)
  have hnl := nodeBytes_len LN (fun x hx => by have := hsmall x hx; omega)
  have hul2 := Lib.uvarint_length64 (show LN.length < 18446744073709551616 by omega)
  have HS := Lib.hid hsmall
  have HN := Lib.hid hlen
  clear h4 hc hget hsmall hLN hbytes m5 hn
  go_enter Try.func64, Try.ntmps64
  go_wp2_with fail
  refine (W.out _).mono ?_
  rintro e v4 ⟨rfl, B4⟩
  have hsz : w.heap.size < v4.heap.size := by have := B4.size; simp at this; omega
  have D4 : ChB v4 w.heap.size ep' (.slice (some ⟨b, off, none⟩) n cap) := (ChB.fresh w _ _ 28).keep B4 (by simp)
  have HC : Hid (Below w.heap.size w v4) := ((Below.refl _ w).alloc (Nat.le_refl _) _).trans (B4.mono (by simp))
  have HD := Lib.hid D4
  obtain ⟨c0, c1⟩ := D4.cells
  clear D4 B4
  go_wp2_with fail
  refine (putint_any _ ep' (by omega) [] _ (Wrt.fresh v4 _) (by simp)).mono ?_
  rintro e v5 ⟨rfl, W5, B5⟩
  have D5 : ChB v5 w.heap.size ep' (.slice (some ⟨b, off, none⟩) n cap) := HD.out.keep (((Below.refl _ v4).alloc (Nat.le_refl _) _).trans B5) hsz
  have HC5 : Hid (Below w.heap.size w v5) := HC.out.trans ((((Below.refl _ v4).alloc (Nat.le_refl _) _).trans B5).mono (by omega))
  obtain ⟨d0, d1⟩ := D5.cells
  clear D5 B5 c0 c1
  have HP := Lib.hid (fun fv hfv => putlist_any v4.heap.size b off n cap fv hfv LN _ v5 HN.out (by omega) (fun x hx => by have := HS.out x hx; omega) (by omega) W5 (by simp; omega) (fun j hj => (HC5.out.cell (p := ⟨b, off + j, none⟩) (show b < w.heap.size by omega)).trans (HCC.out j hj)))
  clear W5
  go_wp2_with fail
  refine (HP.out _ rfl).mono ?_
  rintro e v6 ⟨rfl, W6, B6⟩
  have l5 := HC5.out.size
  have l6 := W6.lt
  have HC6 : Hid (Below w.heap.size w v6) := HC5.out.trans (B6.mono (by omega))
  clear B6
  go_wp2_with fail
  refine (wbytes_any _ _ _ W6 (by simp only [List.length_append, List.length_nil]; omega)).mono ?_
  rintro e v7 ⟨v', rfl, h1, B7⟩
  have l7 := HC6.out.size
  have HB7 := Lib.hid B7
  have H1 := Lib.hid h1
  clear B7 h1 W6
  go_wp2
  go_returns
  refine ⟨v', rfl, own_base (base := v6.heap.size) ?_ l7, HC6.out.trans (HB7.out.mono l7)⟩
  have e : [] ++ Lib.uvarint ep' ++ (Lib.uvarint LN.length ++ nodeBytes LN) = chainBytes ep' LN := by simp only [chainBytes, List.nil_append]
  rw [← e]
  exact H1.out

end Go.Proofs.Ytaaffceanjpmbaa
