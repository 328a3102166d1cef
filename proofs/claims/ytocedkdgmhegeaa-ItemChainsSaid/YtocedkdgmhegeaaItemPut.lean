/-
  THE PROGRAM's PutReq: nothing of a request that may not be, else its bytes. No condition but lengths.
-/
import Derived.Test.YtocedkdgmhegeaaItemMayP
import Derived.Test.YtocedkdgmhegeaaItemMath
namespace Go.Proofs.Ytocedkdgmhegeaa
open Go.RowKit

theorem own_base {w : World} {base base' : Nat} {e : TypeId} {size : Nat} {v : Value} {n : Nat} {xs : List Value} (h : w.ownsRow base e size v n xs) (hb : base' ≤ base) : w.ownsRow base' e size v n xs := by
  refine ⟨h.1, ?_⟩
  rcases h.2 with h0 | ⟨r, cap, cur, rfl, hr, rest⟩
  · exact .inl h0
  · exact .inr ⟨r, cap, cur, rfl, by omega, rest⟩

set_option maxHeartbeats 400000 in
theorem putint_any (g n : Nat) (hn : n ≤ 9223372036854775807) (xs : List UInt8) (w : World) (hW : Wrt w g xs) (hlim : xs.length + 10 ≤ 140737488355328) :
    Calls Try.prog 26 #[.pointer (some ⟨g, 0, none⟩), .int .i64 n] w fun e w' => e = .returned (.tuple #[]) ∧ Wrt w' g (xs ++ Lib.uvarint n) ∧ Below g w w' := by
  have H := Lib.hid (wnum_any g n (by omega) xs w hW hlim)
  clear hW
  go_enter Try.func26, Try.ntmps26
  go_wp2_with fail
  refine H.out.mono ?_
  rintro e w1 ⟨rfl, h1, h2⟩
  go_wp2
  go_end0
  exact ⟨rfl, h1, h2⟩

set_option maxHeartbeats 1000000 in
theorem putreq_no (cl sq kd id mt : Int) (dt : ByteArray) (hd : dt.size ≤ 9223372036854775807) (hm : ¬ ReqV.may ⟨cl, sq, kd, id, mt, dt⟩) (w : World) :
    Calls Try.prog 12 #[.agg #[.int .i64 cl, .int .i64 sq, .int .i64 kd, .int .i64 id, .int .i64 mt, .string dt]] w fun e w' => e = .returned (.tuple #[.slice none 0 0, .int .i64 1]) ∧ Below w.heap.size w w' := by
  have W := Lib.hid (mayreq_r cl sq kd id mt dt hd false (show _ = _ from (decide_eq_false hm).symm))
  clear hm
  go_enter Try.func12, Try.ntmps12
  go_wp2_with fail
  refine (W.out _).mono ?_
  rintro e w1 ⟨rfl, hb⟩
  have HB := Lib.hid hb
  clear hb
  go_wp2
  go_returns
  exact ⟨rfl, ((Below.refl _ w).alloc (Nat.le_refl _) _).trans (HB.out.mono (by simp))⟩

set_option maxHeartbeats 4000000 in
set_option maxRecDepth 100000 in
theorem putreq_yes (cl sq kd id mt : Nat) (dt : ByteArray) (hm : ReqV.may ⟨cl, sq, kd, id, mt, dt⟩) (w : World) :
    Calls Try.prog 12 #[.agg #[.int .i64 cl, .int .i64 sq, .int .i64 kd, .int .i64 id, .int .i64 mt, .string dt]] w fun e w' => ∃ v, e = .returned (.tuple #[v, .int .i64 0]) ∧
      w'.ownsRow w.heap.size 5 1 v (reqBytes cl sq kd id mt dt.data.toList).length (Lib.byteCells (reqBytes cl sq kd id mt dt.data.toList)) ∧ Below w.heap.size w w' := by
  have hm' := hm
  simp only [ReqV.may] at hm'
  have W := Lib.hid (mayreq_r cl sq kd id mt dt (by omega) true (show _ = _ from (decide_eq_true hm).symm))
  have u1 := Lib.uvarint_length64 (show cl < 18446744073709551616 by omega)
  have u2 := Lib.uvarint_length64 (show sq < 18446744073709551616 by omega)
  have u3 := Lib.uvarint_length64 (show kd < 18446744073709551616 by omega)
  have u4 := Lib.uvarint_length64 (show id < 18446744073709551616 by omega)
  have u5 := Lib.uvarint_length64 (show mt < 18446744073709551616 by omega)
  have b1 : cl ≤ 9223372036854775807 := by omega
  have b2 : sq ≤ 9223372036854775807 := by omega
  have b3 : kd ≤ 9223372036854775807 := by omega
  have b4 : id ≤ 9223372036854775807 := by omega
  have b5 : mt ≤ 9223372036854775807 := by omega
  have b6 : dt.size ≤ 64 := by omega
  have u6 := Lib.uvarint_length64 (show dt.size < 18446744073709551616 by omega)
  have hdl : dt.data.toList.length = dt.size := by simp
  have i0 : ∀ w, (Instr.index 52 (.agg #[.int .i64 cl, .int .i64 sq, .int .i64 kd, .int .i64 id, .int .i64 mt]) (.int .i64 0)).run Try.prog w = .ok (.int .i64 cl) w := fun _ => by kernel_rfl
  have i1 : ∀ w, (Instr.index 52 (.agg #[.int .i64 cl, .int .i64 sq, .int .i64 kd, .int .i64 id, .int .i64 mt]) (.int .i64 1)).run Try.prog w = .ok (.int .i64 sq) w := fun _ => by kernel_rfl
  have i2 : ∀ w, (Instr.index 52 (.agg #[.int .i64 cl, .int .i64 sq, .int .i64 kd, .int .i64 id, .int .i64 mt]) (.int .i64 2)).run Try.prog w = .ok (.int .i64 kd) w := fun _ => by kernel_rfl
  have i3 : ∀ w, (Instr.index 52 (.agg #[.int .i64 cl, .int .i64 sq, .int .i64 kd, .int .i64 id, .int .i64 mt]) (.int .i64 3)).run Try.prog w = .ok (.int .i64 id) w := fun _ => by kernel_rfl
  have i4 : ∀ w, (Instr.index 52 (.agg #[.int .i64 cl, .int .i64 sq, .int .i64 kd, .int .i64 id, .int .i64 mt]) (.int .i64 4)).run Try.prog w = .ok (.int .i64 mt) w := fun _ => by kernel_rfl
  clear hm hm'
  go_enter Try.func12, Try.ntmps12
  go_wp2_with fail
  refine (W.out _).mono ?_
  rintro e v4 ⟨rfl, B4⟩
  have hsz : w.heap.size < v4.heap.size := by have := B4.size; simp at this; omega
  have D4 : ReqB v4 w.heap.size cl sq kd id mt dt := (ReqB.fresh w cl sq kd id mt dt 23).keep B4 (by simp)
  have HC : Hid (Below w.heap.size w v4) := ((Below.refl _ w).alloc (Nat.le_refl _) _).trans (B4.mono (by simp))
  have HD := Lib.hid D4
  obtain ⟨c0, c1, c2, c3, c4, c5⟩ := D4.cells
  clear D4 B4
  go_wp2
  refine wp_loop_rounds 6 ?_
  rw [rounds_succ]
  go_wp2_with fail
  refine (putint_any _ cl b1 [] _ (Wrt.fresh v4 _) (by simp)).mono ?_
  rintro e v5 ⟨rfl, W5, B5⟩
  go_wp2
  rw [rounds_succ]
  go_wp2_with fail
  refine (putint_any _ sq b2 _ _ W5 (by simp; omega)).mono ?_
  rintro e v6 ⟨rfl, W6, B6⟩
  go_wp2
  rw [rounds_succ]
  go_wp2_with fail
  refine (putint_any _ kd b3 _ _ W6 (by simp; omega)).mono ?_
  rintro e v7 ⟨rfl, W7, B7⟩
  go_wp2
  rw [rounds_succ]
  go_wp2_with fail
  refine (putint_any _ id b4 _ _ W7 (by simp; omega)).mono ?_
  rintro e v8 ⟨rfl, W8, B8⟩
  go_wp2
  rw [rounds_succ]
  go_wp2_with fail
  refine (putint_any _ mt b5 _ _ W8 (by simp; omega)).mono ?_
  rintro e v9 ⟨rfl, W9, B9⟩
  go_wp2
  rw [rounds_succ]
  have B49 : Below v4.heap.size v4 v9 := (((((Below.refl _ v4).alloc (Nat.le_refl _) _).trans B5).trans B6).trans B7).trans (B8.trans B9)
  have HE : Hid (Below w.heap.size w v9) := HC.out.trans (B49.mono (by omega))
  have D9 := HD.out.keep B49 hsz
  obtain ⟨d0, d1, d2, d3, d4, d5⟩ := D9.cells
  clear D9 B5 B6 B7 B8 B9 B49 c0 c1 c2 c3 c4 c5 d0 d1 d2 d3 d4
  go_wp2_with fail
  refine (wtext_any _ dt _ _ W9 (by simp; omega)).mono ?_
  rintro e v10 ⟨rfl, W10, B10⟩
  go_wp2_with fail
  refine (wbytes_any _ _ _ W10 (by simp; omega)).mono ?_
  rintro e v11 ⟨v', rfl, h1, B11⟩
  go_wp2
  go_returns
  have e : [] ++ Lib.uvarint cl ++ Lib.uvarint sq ++ Lib.uvarint kd ++ Lib.uvarint id ++ Lib.uvarint mt ++ Lib.uvarint dt.size ++ dt.data.toList = reqBytes cl sq kd id mt dt.data.toList := by
    simp only [reqBytes, List.append_assoc, List.nil_append, hdl]
  rw [e] at h1
  have l1 := HE.out.size
  have l2 := B10.size
  have l3 := hsz
  refine ⟨v', rfl, own_base h1 (by omega), ?_⟩
  exact (HE.out.trans (B10.mono (by omega))).trans (B11.mono (by omega))
end Go.Proofs.Ytocedkdgmhegeaa
