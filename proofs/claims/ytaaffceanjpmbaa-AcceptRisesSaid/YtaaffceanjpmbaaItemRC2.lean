/-
  THE REFERENCE's PutChain: a chain's bytes as a text. For a chain that may be.
-/
import Derived.Test.YtaaffceanjpmbaaItemRC
import Derived.Test.YtaaffceanjpmbaaItemRPut
import Derived.Test.YtaaffceanjpmbaaPackBase
namespace Go.Proofs.Ytaaffceanjpmbaa
open Go.RowKit

/-- The chain's block stands, and nothing below it has turned. -/
structure PC (w v : World) (ep : Int) (x : Value) : Prop where
  q : ChB v w.heap.size ep x
  bel : Below w.heap.size w v
theorem PC.step {w u v : World} {ep : Int} {x : Value} (h : PC w u ep x) (hb : Below u.heap.size u v) : PC w v ep x :=
  ⟨h.q.keep hb h.q.lt, h.bel.trans (hb.mono h.bel.size)⟩

set_option maxHeartbeats 2000000 in
set_option maxRecDepth 100000 in
theorem refputchain_any (ep : Int) (v : Value) (L : List Int) (B : Nat) (w : World) (hI : Ints w B v L) (hBw : B ≤ w.heap.size) (hm : ChainV.may ⟨ep, L⟩) :
    Calls Try.prog 76 #[.agg #[.int .i64 ep, v]] w fun e w' => e = .returned (.string (txt (ChainV.bytes ⟨ep, L⟩))) ∧ Below w.heap.size w w' := by
  obtain ⟨m1, m2, m3, m4, m5⟩ := hm
  simp only at m1 m2 m3 m4 m5
  obtain ⟨ep', rfl⟩ : ∃ n : Nat, ep = n := ⟨ep.toNat, by omega⟩
  obtain ⟨LN, hLN⟩ : ∃ LN, LN = L.map Int.toNat := ⟨_, rfl⟩
  have hget : ∀ j, L.getD j 0 = ((LN.getD j 0 : Nat) : Int) := by rw [hLN]; exact toNat_getD L (fun x hx => (m5.1 x hx).1)
  have hsmall : ∀ x ∈ LN, x ≤ 4 := by
    rw [hLN]
    intro x hx
    obtain ⟨y, hy, rfl⟩ := List.mem_map.1 hx
    have := m5.1 y hy
    omega
  have hbytes : ChainV.bytes ⟨(ep' : Int), L⟩ = chainBytes ep' LN := by rw [hLN]; rfl
  rw [hbytes]
  have hlen : LN.length = L.length := by rw [hLN, List.length_map]
  obtain ⟨ao, cap, rfl, h1, h2, h3, h4⟩ := hI
  obtain ⟨b, off, rfl, hbB, hc⟩ := h4 (by intro h; rw [h] at m3; simp at m3)
  obtain ⟨n, hn⟩ : ∃ n, L.length = n := ⟨_, rfl⟩
  rw [hn] at h1 m3 m4 hlen hc ⊢
  have HCC : Hid (∀ j, j < n → w.cell? ⟨b, off + j, none⟩ = some (.int .i64 (LN.getD j 0 : Nat))) := fun j hj => by rw [hc j hj, hget]
  have be : ep' < 18446744073709551616 := by omega
  have bn : n < 18446744073709551616 := by omega
  have n1 := Lib.uvarint_length64 be
  have n2 := Lib.uvarint_length64 bn
  have a1 := txt_add (Lib.uvarint ep') (Lib.uvarint n) (by omega)
  have w1 := u64_of_nat ep' be
  have w2 := u64_of_nat n bn
  obtain ⟨x1, hx1⟩ : ∃ x, x = txt (Lib.uvarint ep') := ⟨_, rfl⟩
  obtain ⟨x2, hx2⟩ : ∃ x, x = txt (Lib.uvarint n) := ⟨_, rfl⟩
  obtain ⟨y2, hy2⟩ : ∃ x, x = txt (Lib.uvarint ep' ++ Lib.uvarint n) := ⟨_, rfl⟩
  rw [← hx1, ← hx2, ← hy2] at a1
  have K1 : Hid (∀ u, Calls Try.prog 91 #[.int .u64 ep'] u fun e w' => e = .returned (.string x1) ∧ Below u.heap.size u w') := fun u => by rw [hx1]; exact refnum_any ep' be u
  have K2 : Hid (∀ u, Calls Try.prog 91 #[.int .u64 n] u fun e w' => e = .returned (.string x2) ∧ Below u.heap.size u w') := fun u => by rw [hx2]; exact refnum_any n bn u
  have HY2 := Lib.hid hy2
  have HS := Lib.hid hsmall
  have HN := Lib.hid hlen
  have P0 : PC w ((w.alloc (.cells #[.int .i64 ep', .slice (some ⟨b, off, none⟩) n cap] 28)).drew) ep' (.slice (some ⟨b, off, none⟩) n cap) := ⟨ChB.fresh w _ _ 28, ((Below.refl _ w).alloc (Nat.le_refl _) _).drew⟩
  have FX : Hid (∀ u, PC w u ep' (.slice (some ⟨b, off, none⟩) n cap) → u.cell? ⟨w.heap.size, 0, none⟩ = some (.int .i64 ep') ∧ u.cell? ⟨w.heap.size, 1, none⟩ = some (.slice (some ⟨b, off, none⟩) n cap)) := fun u hu => hu.q.cells
  clear h4 hc hget hsmall hLN hbytes m5 hn hx1 hx2 hy2 hlen
  go_enter Try.func76, Try.ntmps76
  go_wp2_with fail
  refine region_quiet (fun v => PC w v ep' (.slice (some ⟨b, off, none⟩) n cap)) (by kernel_rfl) (by kernel_rfl) P0 ?_
  repeat (first
    | go_big_quiet_skip
    | (go_big_quiet_want
       (first
        | (refine quiet_run (v := ?_) ?_ ?_; rotate_left; (intro u hu; obtain ⟨c0, c1⟩ := FX.out u hu; go_simp <;> with_reducible rfl); simp only [Act.put, List.setIfInBounds_toArray, List.set_cons_zero, List.set_cons_succ]; go_big_quiet_on)
        | (refine quiet_enter 91 #[.int .u64 (ep' : Int)] ?_ (fun u hu => (K1.out u).mono fun e u' ⟨he, hb⟩ => ⟨he, hu.step hb⟩) ?_; (focus (intro u; first | (go_simp; done) | (go_simp; with_reducible rfl))); simp only [Act.put, List.setIfInBounds_toArray, List.set_cons_zero, List.set_cons_succ]; go_big_quiet_on)
        | (refine quiet_enter 91 #[.int .u64 (n : Int)] ?_ (fun u hu => (K2.out u).mono fun e u' ⟨he, hb⟩ => ⟨he, hu.step hb⟩) ?_; (focus (intro u; first | (go_simp; done) | (go_simp; with_reducible rfl))); simp only [Act.put, List.setIfInBounds_toArray, List.set_cons_zero, List.set_cons_succ]; go_big_quiet_on))))
  refine wpQuiet_nil ?_
  intro w4 h4
  have C4 := Lib.hid h4
  clear P0 FX h4 a1 w1 w2
  go_wp2
  go_loopw [3, 4] (fun vs vi wr => ∃ i : Nat, i ≤ n ∧ vi = .int .i64 i ∧ vs = .string (txt (Lib.uvarint ep' ++ Lib.uvarint n ++ nodeBytes (LN.take i))) ∧ PC w wr ep' (.slice (some ⟨b, off, none⟩) n cap)) (fun _ vi _ => n - (intOf vi).toNat)
  case atStart => exact ⟨0, by omega, rfl, by rw [HY2.out]; simp [nodeBytes], C4.out⟩
  case round =>
    obtain ⟨i, hi, rfl, rfl, hpc⟩ := hrel
    have HP := Lib.hid hpc
    obtain ⟨c0, c1⟩ := hpc.q.cells
    clear hpc
    by_cases hlt : i < n
    · obtain ⟨x, hx⟩ : ∃ x, x = LN.getD i 0 := ⟨_, rfl⟩
      have hil : i < LN.length := by rw [HN.out]; exact hlt
      have hcell : wr.cell? ⟨b, off + i, none⟩ = some (.int .i64 x) := by
        rw [hx, ← HCC.out i hlt]
        exact HP.out.bel.cell (p := ⟨b, off + i, none⟩) (show b < w.heap.size by omega)
      have hx4 : x ≤ 4 := by
        rw [hx]
        refine HS.out _ ?_
        rw [show LN.getD i 0 = LN[i] by simp [List.getD, hil]]
        exact List.getElem_mem hil
      have HT : Hid (nodeBytes (LN.take (i + 1)) = nodeBytes (LN.take i) ++ Lib.uvarint x) := by show _ = _; rw [hx]; exact nodeBytes_take LN i hil
      have hlenb := nodeBytes_len (LN.take i) (fun y hy => by have := HS.out y (List.mem_of_mem_take hy); omega)
      rw [List.length_take] at hlenb
      have bx : x < 18446744073709551616 := by omega
      have n3 := Lib.uvarint_length64 bx
      have a2 := txt_add (Lib.uvarint ep' ++ Lib.uvarint n ++ nodeBytes (LN.take i)) (Lib.uvarint x) (by simp only [List.length_append]; omega)
      have w3 := u64_of_nat x bx
      have K3 := Lib.hid (refnum_any x bx wr)
      obtain ⟨s1, hs1⟩ : ∃ s, s = txt (Lib.uvarint ep' ++ Lib.uvarint n ++ nodeBytes (LN.take i)) := ⟨_, rfl⟩
      obtain ⟨s2, hs2⟩ : ∃ s, s = txt (Lib.uvarint x) := ⟨_, rfl⟩
      obtain ⟨s3, hs3⟩ : ∃ s, s = txt (Lib.uvarint ep' ++ Lib.uvarint n ++ nodeBytes (LN.take i) ++ Lib.uvarint x) := ⟨_, rfl⟩
      have K4 : Hid (Calls Try.prog 91 #[.int .u64 x] wr fun e w' => e = .returned (.string s2) ∧ Below wr.heap.size wr w') := by rw [hs2]; exact K3.out
      rw [← hs1, ← hs2, ← hs3] at a2
      rw [← hs1]
      have HS3 := Lib.hid hs3
      clear hx hlenb n3 hs1 hs2 hs3 K3
      go_wp2_with fail
      refine K4.out.mono ?_
      rintro e w5 ⟨rfl, B5⟩
      have HP5 := Lib.hid (HP.out.step B5)
      clear B5
      go_wp2
      go_roundw
      case rel => exact ⟨i + 1, by omega, by go_num, by rw [HS3.out, HT.out, List.append_assoc], HP5.out⟩
      case measure => simp [intOf]; omega
    · have hin : i = n := by omega
      subst hin
      have hfull : LN.take i = LN := List.take_of_length_le (by rw [HN.out]; omega)
      rw [hfull]
      clear hfull
      go_wp2
      go_returns
      refine ⟨?_, HP.out.bel⟩
      rw [chainBytes, HN.out, List.append_assoc]
      rfl
end Go.Proofs.Ytaaffceanjpmbaa
