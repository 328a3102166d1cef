/-
  A BALLOT's BYTES: Put, Get, and the reference's Put. For a ballot whose numbers are none below nought.
-/
import Derived.Test.YtaaffceanjpmbaaBallotV
import Derived.Test.YtaaffceanjpmbaaPackK
import Derived.Test.YtaaffceanjpmbaaItemA
import Derived.Test.YtaaffceanjpmbaaItemRPut
namespace Go.Proofs.Ytaaffceanjpmbaa
open Go.RowKit

/-- A ballot's bytes. -/
def balBytes (r n : Nat) : List UInt8 := Lib.uvarint r ++ Lib.uvarint n
theorem balBytes_len {r n : Nat} (hr : r < 18446744073709551616) (hn : n < 18446744073709551616) : (balBytes r n).length ≤ 20 := by
  have h1 := Lib.uvarint_length64 hr
  have h2 := Lib.uvarint_length64 hn
  rw [balBytes, List.length_append]
  omega

/-- What a reader finds where a ballot is looked for. -/
def getBal (st : Option (List UInt8)) : Nat × Nat × Option (List UInt8) := ((rNum 1099511627776 st).1, (rNum 4 (rNum 1099511627776 st).2).1, (rNum 4 (rNum 1099511627776 st).2).2)

theorem num_put (M v : Nat) (hv : v < 18446744073709551616) (h : v ≤ M) (t : List UInt8) : rNum M (some (Lib.uvarint v ++ t)) = (v, some t) := by
  simp only [rNum, numAt_uvarint v hv t]
  simp [h]
theorem getBal_put (r n : Nat) (hr : r ≤ 1099511627776) (hn : n ≤ 4) (t : List UInt8) : getBal (some (balBytes r n ++ t)) = (r, n, some t) := by
  unfold getBal balBytes
  rw [List.append_assoc, num_put _ r (by omega) hr]
  simp only
  rw [num_put _ n (by omega) hn]

theorem BalB.keepU {w w' : World} {b g : Nat} {r n : Int} (h : BalB w b r n) (hk : KeepU g w w') (hg : b ≠ g) : BalB w' b r n :=
  hk.same b _ h hg (fun cs fr e => by simp at e)

set_option maxHeartbeats 2000000 in
set_option maxRecDepth 100000 in
theorem vput_any (g r n : Nat) (xs : List UInt8) (w : World) (hr : r < 9223372036854775808) (hn : n < 9223372036854775808) (hW : Wrt w g xs) (hlim : xs.length + 20 ≤ 140737488355328) :
    Calls Try.prog 67 #[.pointer (some ⟨g, 0, none⟩), .agg #[.int .i64 r, .int .i64 n]] w fun e w' => e = .returned (.tuple #[]) ∧ Wrt w' g (xs ++ balBytes r n) ∧ Below g w w' ∧ KeepU g w w' := by
  have k1 := Lib.uvarint_length64 (show r < 18446744073709551616 by omega)
  have H1 := Lib.hid (wnumk_any g r (by omega) xs (w.alloc (.cells #[.int .i64 r, .int .i64 n] 30)) (hW.alloc _) (by omega))
  have hg := hW.lt
  have H2 : Hid (∀ u, Wrt u g (xs ++ Lib.uvarint r) → Calls Try.prog 86 #[.pointer (some ⟨g, 0, none⟩), .int .u64 n] u fun e w' => e = .returned (.tuple #[]) ∧ Wrt w' g (xs ++ Lib.uvarint r ++ Lib.uvarint n) ∧ Below g u w' ∧ KeepU g u w') :=
    fun u hu => wnumk_any g n (by omega) _ u hu (by rw [List.length_append]; omega)
  have w1 := u64_of_nat r (by omega)
  have w2 := u64_of_nat n (by omega)
  clear hr hn hW hlim k1
  go_enter Try.func67, Try.ntmps67
  go_wp2_with fail
  refine H1.out.mono ?_
  rintro e v1 ⟨rfl, W1, B1, K1⟩
  have D1 : Hid (BalB v1 w.heap.size r n) := (BalB.fresh w _ _).keepU K1 (by omega)
  have C1 : Hid (Below g w v1) := ((Below.refl _ w).alloc (Nat.le_of_lt hg) _).trans B1
  have K2 : Hid (KeepU g w v1) := (KeepU.alloc _ _ _).trans K1
  obtain ⟨c0, c1, _, _⟩ := D1.out.cells
  have W2 := Lib.hid W1
  clear B1 K1 W1 H1
  go_wp2_with fail
  refine (H2.out _ W2.out).mono ?_
  rintro e v2 ⟨rfl, W3, B2, K3⟩
  have C2 : Hid (Below g w v2) := C1.out.trans B2
  have K4 : Hid (KeepU g w v2) := K2.out.trans K3
  have W4 : Hid (Wrt v2 g (xs ++ balBytes r n)) := by rw [balBytes, ← List.append_assoc]; exact W3
  clear B2 K3 W3 c0 c1 D1
  go_wp2
  go_end0
  exact ⟨rfl, W4.out, C2.out, K4.out⟩

set_option maxHeartbeats 2000000 in
set_option maxRecDepth 100000 in
theorem vget_any {lo : Nat} (h : Nat) (st : Option (List UInt8)) (w : World) (hR : RdrL lo w h st) (hm : ∀ l, st = some l → l.length ≤ 140737488355328) :
    Calls Try.prog 47 #[.pointer (some ⟨h, 0, none⟩)] w fun e w' => e = .returned (.agg #[.int .i64 (getBal st).1, .int .i64 (getBal st).2.1]) ∧ RdrL lo w' h (getBal st).2.2 ∧ w.grownBy w' (some h) := by
  have hlt := hR.lt
  have H1 := Lib.hid (rnum_any h st 1099511627776 (w.alloc (.cells #[.int .i64 0, .int .i64 0] 30)) (rdrl_alloc hR _) hm)
  have H2 : Hid (∀ u, RdrL lo u h (rNum 1099511627776 st).2 → Calls Try.prog 73 #[.pointer (some ⟨h, 0, none⟩), .int .u64 4] u fun e w' => e = .returned (.int .u64 (rNum 4 (rNum 1099511627776 st).2).1) ∧ RdrL lo w' h (rNum 4 (rNum 1099511627776 st).2).2 ∧ u.grownBy w' (some h)) :=
    fun u hu => rnum_any h _ 4 u hu (rNum_len2 _ _ _ hm)
  have m1 := rNum_le 1099511627776 st
  have m2 := rNum_le 4 (rNum 1099511627776 st).2
  unfold getBal
  simp only
  obtain ⟨x, hx⟩ : ∃ x, x = (rNum 1099511627776 st).1 := ⟨_, rfl⟩
  obtain ⟨y, hy⟩ : ∃ y, y = (rNum 4 (rNum 1099511627776 st).2).1 := ⟨_, rfl⟩
  rw [← hx] at H1 m1 ⊢
  rw [← hy] at H2 m2 ⊢
  clear hR hm hx hy
  go_enter Try.func47, Try.ntmps47
  go_wp2_with fail
  refine H1.out.mono ?_
  rintro e v1 ⟨rfl, R1, G1⟩
  have D1 : Hid (BalB v1 w.heap.size 0 0) := (BalB.fresh w _ _).kept G1 (by simp; omega)
  have G2 : Hid (w.grownBy v1 (some h)) := grownBy_trans (World.grownBy_alloc w _ _) G1
  have R2 := Lib.hid R1
  clear G1 R1 H1
  go_wp2_with fail
  refine (H2.out _ R2.out).mono ?_
  rintro e v2 ⟨rfl, R3, G3⟩
  have D2 : Hid (BalB v2 w.heap.size 0 0) := D1.out.kept G3 (by simp; omega)
  have G4 : Hid (w.grownBy v2 (some h)) := grownBy_trans G2.out G3
  have R4 := Lib.hid R3
  clear G3 R3 H2 D1 G2
  have hz := hlt
  go_wp2_with (refine store_bal rfl (.tmp 2) (.tmp 9) rfl w.heap.size rfl x y rfl D2.out ?_)
  intro w8 H8 G8
  obtain ⟨e0, e1, _, _⟩ := H8.cells
  have BF : Hid (Below w.heap.size v2 w8) := (Below.refl _ _).grown G8 (Nat.le_of_lt D2.out.lt) (fun j hj => by cases hj; omega)
  have R5 : Hid (RdrL lo w8 h (rNum 4 (rNum 1099511627776 st).2).2) := R4.out.keep (BF.out.mono hlt)
  have G9 : Hid (w.grownBy w8 (some h)) := ⟨G8.os.trans G4.out.os, G8.tape.trans G4.out.tape, G8.output.trans G4.out.output, Nat.le_trans G4.out.size G8.size, fun k hk hne => (BF.out.block k hk).trans (G4.out.block k hk hne)⟩
  clear G8
  go_wp2
  refine bodyPost_ret (v := .agg #[.int .i64 x, .int .i64 y]) (by simp [results, Try.results47, go_sem, e0, e1]) rfl ⟨rfl, R5.out, G9.out⟩

set_option maxHeartbeats 2000000 in
set_option maxRecDepth 100000 in
theorem rvput_any (r n : Nat) (w : World) (hr : r < 9223372036854775808) (hn : n < 9223372036854775808) :
    Calls Try.prog 77 #[.agg #[.int .i64 r, .int .i64 n]] w fun e w' => e = .returned (.string (txt (balBytes r n))) ∧ Below w.heap.size w w' := by
  have k1 := Lib.uvarint_length64 (show r < 18446744073709551616 by omega)
  have k2 := Lib.uvarint_length64 (show n < 18446744073709551616 by omega)
  have H1 := Lib.hid (fun u => refnum_any r (by omega) u)
  have H2 := Lib.hid (fun u => refnum_any n (by omega) u)
  have a1 := txt_add (Lib.uvarint r) (Lib.uvarint n) (by omega)
  have w1 := u64_of_nat r (by omega)
  have w2 := u64_of_nat n (by omega)
  rw [← balBytes] at a1
  obtain ⟨x1, hx1⟩ : ∃ x, x = txt (Lib.uvarint r) := ⟨_, rfl⟩
  obtain ⟨x2, hx2⟩ : ∃ x, x = txt (Lib.uvarint n) := ⟨_, rfl⟩
  obtain ⟨y, hy⟩ : ∃ x, x = txt (balBytes r n) := ⟨_, rfl⟩
  rw [← hx1, ← hx2, ← hy] at a1
  have K1 : Hid (∀ u, Calls Try.prog 91 #[.int .u64 r] u fun e w' => e = .returned (.string x1) ∧ Below u.heap.size u w') := fun u => by rw [hx1]; exact H1.out u
  have K2 : Hid (∀ u, Calls Try.prog 91 #[.int .u64 n] u fun e w' => e = .returned (.string x2) ∧ Below u.heap.size u w') := fun u => by rw [hx2]; exact H2.out u
  rw [← hy]
  clear hr hn k1 k2 hx1 hx2 hy H1 H2
  have P0 : (fun v => BalB v w.heap.size r n ∧ Below w.heap.size w v) (w.alloc (.cells #[.int .i64 r, .int .i64 n] 30)).drew := ⟨BalB.fresh w _ _, ((Below.refl _ w).alloc (Nat.le_refl _) _).drew⟩
  have ST : Hid (∀ u v : World, (BalB u w.heap.size r n ∧ Below w.heap.size w u) → Below u.heap.size u v → (BalB v w.heap.size r n ∧ Below w.heap.size w v)) := fun u v h hb => ⟨h.1.keep hb h.1.lt, h.2.trans (hb.mono h.2.size)⟩
  have FX : Hid (∀ u, (BalB u w.heap.size r n ∧ Below w.heap.size w u) → u.cell? ⟨w.heap.size, 0, none⟩ = some (.int .i64 r) ∧ u.cell? ⟨w.heap.size, 1, none⟩ = some (.int .i64 n)) := fun u hu => ⟨hu.1.cells.1, hu.1.cells.2.1⟩
  go_enter Try.func77, Try.ntmps77
  go_wp2_with fail
  refine region_quiet (fun v => BalB v w.heap.size r n ∧ Below w.heap.size w v) (by kernel_rfl) (by kernel_rfl) P0 ?_
  repeat (first
    | go_big_quiet_skip
    | (go_big_quiet_want
       (first
        | (refine quiet_run (v := ?_) ?_ ?_; rotate_left; (intro u hu; obtain ⟨c0, c1⟩ := FX.out u hu; go_simp <;> with_reducible rfl); simp only [Act.put, List.setIfInBounds_toArray, List.set_cons_zero, List.set_cons_succ]; go_big_quiet_on)
        | (refine quiet_enter 91 _ ?_ (fun u hu => (K1.out u).mono fun e u' ⟨he, hb⟩ => ⟨he, ST.out u u' hu hb⟩) ?_; (focus (intro u; first | (go_simp; done) | (go_simp; with_reducible rfl))); simp only [Act.put, List.setIfInBounds_toArray, List.set_cons_zero, List.set_cons_succ]; go_big_quiet_on)
        | (refine quiet_enter 91 _ ?_ (fun u hu => (K2.out u).mono fun e u' ⟨he, hb⟩ => ⟨he, ST.out u u' hu hb⟩) ?_; (focus (intro u; first | (go_simp; done) | (go_simp; with_reducible rfl))); simp only [Act.put, List.setIfInBounds_toArray, List.set_cons_zero, List.set_cons_succ]; go_big_quiet_on))))
  refine wpQuiet_nil ?_
  intro w4 h4
  have C4 : Hid (Below w.heap.size w w4) := h4.2
  clear P0 FX h4
  go_wp2
  go_returns
  exact ⟨rfl, C4.out⟩
end Go.Proofs.Ytaaffceanjpmbaa
