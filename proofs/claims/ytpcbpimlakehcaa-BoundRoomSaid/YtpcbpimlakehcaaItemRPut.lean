/-
  THE REFERENCE's PutReq: a request's bytes as a text. For a request that may be.
-/
import Derived.Test.YtpcbpimlakehcaaItemA
import Derived.Test.YtpcbpimlakehcaaPackRef
import Derived.Deep.RegionHeld3
namespace Go.Proofs.Ytpcbpimlakehcaa
open Go.RowKit

/-- The request's block stands, and nothing below it has turned. -/
def PQ (w v : World) (cl sq kd id mt : Int) (dt : ByteArray) : Prop := ReqB v w.heap.size cl sq kd id mt dt ∧ Below w.heap.size w v
theorem PQ.step {w u v : World} {cl sq kd id mt : Int} {dt : ByteArray} (h : PQ w u cl sq kd id mt dt) (hb : Below u.heap.size u v) : PQ w v cl sq kd id mt dt :=
  ⟨h.1.keep hb h.1.lt, h.2.trans (hb.mono h.2.size)⟩

/-- A text of bytes. -/
def txt (l : List UInt8) : ByteArray := ⟨l.toArray⟩
theorem txt_add (a b : List UInt8) (h : a.length + b.length ≤ 9223372036854775807) (w : World) : (Op.stringOp .add (txt a) (txt b)).run Try.prog w = .ok (.string (txt (a ++ b))) w := by
  have h1 : (txt a).size = a.length := List.size_toArray
  have h2 : (txt b).size = b.length := List.size_toArray
  rw [run_string_add_sum w _ _ (by rw [h1, h2]; exact h)]
  have : txt a ++ txt b = txt (a ++ b) := by
    apply ByteArray.ext
    simp [txt, ByteArray.data_append]
  rw [this]
theorem u64_of_nat (n : Nat) (h : n < 18446744073709551616) : IntKind.u64.wrap (n : Int) = n := by
  simp [IntKind.wrap, IntKind.bits, IntKind.signed]; omega

set_option maxHeartbeats 2000000 in
set_option maxRecDepth 100000 in
theorem refputreq_any (cl sq kd id mt : Nat) (dt : ByteArray) (hm : ReqV.may ⟨cl, sq, kd, id, mt, dt⟩) (w : World) :
    Calls Try.prog 51 #[.agg #[.int .i64 cl, .int .i64 sq, .int .i64 kd, .int .i64 id, .int .i64 mt, .string dt]] w fun e w' => e = .returned (.string (txt (reqBytes cl sq kd id mt dt.data.toList))) ∧ Below w.heap.size w w' := by
  simp only [ReqV.may] at hm
  have hdl : dt.data.toList.length = dt.size := by simp
  have b1 : cl < 18446744073709551616 := by omega
  have b2 : sq < 18446744073709551616 := by omega
  have b3 : kd < 18446744073709551616 := by omega
  have b4 : id < 18446744073709551616 := by omega
  have b5 : mt < 18446744073709551616 := by omega
  have b6 : dt.size < 18446744073709551616 := by omega
  have n1 := Lib.uvarint_length64 b1
  have n2 := Lib.uvarint_length64 b2
  have n3 := Lib.uvarint_length64 b3
  have n4 := Lib.uvarint_length64 b4
  have n5 := Lib.uvarint_length64 b5
  have n6 := Lib.uvarint_length64 b6
  have H1 := Lib.hid (fun u => refnum_any cl b1 u)
  have H2 := Lib.hid (fun u => refnum_any sq b2 u)
  have H3 := Lib.hid (fun u => refnum_any kd b3 u)
  have H4 := Lib.hid (fun u => refnum_any id b4 u)
  have H5 := Lib.hid (fun u => refnum_any mt b5 u)
  have H6 := Lib.hid (fun u => reftext_any dt u (by omega))
  have a1 := txt_add (Lib.uvarint cl) (Lib.uvarint sq) (by omega)
  have a2 := txt_add (Lib.uvarint cl ++ Lib.uvarint sq) (Lib.uvarint kd) (by simp only [List.length_append]; omega)
  have a3 := txt_add (Lib.uvarint cl ++ Lib.uvarint sq ++ Lib.uvarint kd) (Lib.uvarint id) (by simp only [List.length_append]; omega)
  have a4 := txt_add (Lib.uvarint cl ++ Lib.uvarint sq ++ Lib.uvarint kd ++ Lib.uvarint id) (Lib.uvarint mt) (by simp only [List.length_append]; omega)
  have a5 := txt_add (Lib.uvarint cl ++ Lib.uvarint sq ++ Lib.uvarint kd ++ Lib.uvarint id ++ Lib.uvarint mt) (Lib.uvarint dt.size ++ dt.data.toList) (by simp only [List.length_append]; omega)
  have hend : Lib.uvarint cl ++ Lib.uvarint sq ++ Lib.uvarint kd ++ Lib.uvarint id ++ Lib.uvarint mt ++ (Lib.uvarint dt.size ++ dt.data.toList) = reqBytes cl sq kd id mt dt.data.toList := by
    simp only [reqBytes, List.append_assoc, hdl]
  rw [← hend]
  have w1 := u64_of_nat cl b1
  have w2 := u64_of_nat sq b2
  have w3 := u64_of_nat kd b3
  have w4 := u64_of_nat id b4
  have w5 := u64_of_nat mt b5
  obtain ⟨x1, hx1⟩ : ∃ x, x = txt (Lib.uvarint cl) := ⟨_, rfl⟩
  obtain ⟨x2, hx2⟩ : ∃ x, x = txt (Lib.uvarint sq) := ⟨_, rfl⟩
  obtain ⟨x3, hx3⟩ : ∃ x, x = txt (Lib.uvarint kd) := ⟨_, rfl⟩
  obtain ⟨x4, hx4⟩ : ∃ x, x = txt (Lib.uvarint id) := ⟨_, rfl⟩
  obtain ⟨x5, hx5⟩ : ∃ x, x = txt (Lib.uvarint mt) := ⟨_, rfl⟩
  obtain ⟨x6, hx6⟩ : ∃ x, x = txt (Lib.uvarint dt.size ++ dt.data.toList) := ⟨_, rfl⟩
  obtain ⟨y2, hy2⟩ : ∃ x, x = txt (Lib.uvarint cl ++ Lib.uvarint sq) := ⟨_, rfl⟩
  obtain ⟨y3, hy3⟩ : ∃ x, x = txt (Lib.uvarint cl ++ Lib.uvarint sq ++ Lib.uvarint kd) := ⟨_, rfl⟩
  obtain ⟨y4, hy4⟩ : ∃ x, x = txt (Lib.uvarint cl ++ Lib.uvarint sq ++ Lib.uvarint kd ++ Lib.uvarint id) := ⟨_, rfl⟩
  obtain ⟨y5, hy5⟩ : ∃ x, x = txt (Lib.uvarint cl ++ Lib.uvarint sq ++ Lib.uvarint kd ++ Lib.uvarint id ++ Lib.uvarint mt) := ⟨_, rfl⟩
  obtain ⟨y6, hy6⟩ : ∃ x, x = txt (Lib.uvarint cl ++ Lib.uvarint sq ++ Lib.uvarint kd ++ Lib.uvarint id ++ Lib.uvarint mt ++ (Lib.uvarint dt.size ++ dt.data.toList)) := ⟨_, rfl⟩
  rw [← hx1, ← hx2, ← hy2] at a1
  rw [← hy2, ← hx3, ← hy3] at a2
  rw [← hy3, ← hx4, ← hy4] at a3
  rw [← hy4, ← hx5, ← hy5] at a4
  rw [← hy5, ← hx6, ← hy6] at a5
  rw [← hy6]
  have K1 : Hid (∀ u, Calls Try.prog 73 #[.int .u64 cl] u fun e w' => e = .returned (.string x1) ∧ Below u.heap.size u w') := fun u => by rw [hx1]; exact H1.out u
  have K2 : Hid (∀ u, Calls Try.prog 73 #[.int .u64 sq] u fun e w' => e = .returned (.string x2) ∧ Below u.heap.size u w') := fun u => by rw [hx2]; exact H2.out u
  have K3 : Hid (∀ u, Calls Try.prog 73 #[.int .u64 kd] u fun e w' => e = .returned (.string x3) ∧ Below u.heap.size u w') := fun u => by rw [hx3]; exact H3.out u
  have K4 : Hid (∀ u, Calls Try.prog 73 #[.int .u64 id] u fun e w' => e = .returned (.string x4) ∧ Below u.heap.size u w') := fun u => by rw [hx4]; exact H4.out u
  have K5 : Hid (∀ u, Calls Try.prog 73 #[.int .u64 mt] u fun e w' => e = .returned (.string x5) ∧ Below u.heap.size u w') := fun u => by rw [hx5]; exact H5.out u
  have K6 : Hid (∀ u, Calls Try.prog 74 #[.string dt] u fun e w' => e = .returned (.string x6) ∧ Below u.heap.size u w') := fun u => by rw [hx6]; exact H6.out u
  have P0 : PQ w ((w.alloc (.cells #[.int .i64 cl, .int .i64 sq, .int .i64 kd, .int .i64 id, .int .i64 mt, .string dt] 33)).drew) cl sq kd id mt dt := ⟨ReqB.fresh w _ _ _ _ _ _ 33, ((Below.refl _ w).alloc (Nat.le_refl _) _).drew⟩
  obtain ⟨c0, c1, c2, c3, c4, c5⟩ := P0.1.cells
  clear hm hx1 hx2 hx3 hx4 hx5 hx6 hy2 hy3 hy4 hy5 hy6 hend hdl H1 H2 H3 H4 H5 H6 n1 n2 n3 n4 n5 n6 b1 b2 b3 b4 b5 b6
  go_enter Try.func51, Try.ntmps51
  go_wp2_with fail
  go_region_held3 (fun v => v.cell? ⟨w.heap.size, 0, none⟩ = some (.int .i64 cl) ∧ v.cell? ⟨w.heap.size, 1, none⟩ = some (.int .i64 sq) ∧ v.cell? ⟨w.heap.size, 2, none⟩ = some (.int .i64 kd) ∧ v.cell? ⟨w.heap.size, 3, none⟩ = some (.int .i64 id) ∧ v.cell? ⟨w.heap.size, 4, none⟩ = some (.int .i64 mt) ∧ v.cell? ⟨w.heap.size, 5, none⟩ = some (.string dt))
    (first | exact ⟨c0, c1, c2, c3, c4, c5⟩ | (refine ⟨?_, ?_, ?_, ?_, ?_, ?_⟩ <;> first | assumption | go_keep))
    (first
      | (go_at_call 73; (first | with_reducible refine (K1.out _).mono ?_ | with_reducible refine (K2.out _).mono ?_ | with_reducible refine (K3.out _).mono ?_ | with_reducible refine (K4.out _).mono ?_ | with_reducible refine (K5.out _).mono ?_); rintro e v1 ⟨rfl, hb1⟩; have P1 := PQ.step (by assumption) hb1; obtain ⟨c0, c1, c2, c3, c4, c5⟩ := P1.1.cells)
      | (go_at_call 74; refine (K6.out _).mono ?_; rintro e v1 ⟨rfl, hb1⟩; have P1 := PQ.step (by assumption) hb1; obtain ⟨c0, c1, c2, c3, c4, c5⟩ := P1.1.cells))
  go_wp2
  go_returns
  exact ⟨rfl, (show PQ w _ cl sq kd id mt dt by assumption).2⟩
end Go.Proofs.Ytpcbpimlakehcaa
