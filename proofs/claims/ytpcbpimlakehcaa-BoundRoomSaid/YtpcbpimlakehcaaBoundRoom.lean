/-
  PROVED: casebooklaw24.BoundRoom answers true and leaves its argument as it was, for any request: the row's own reading and nothing else is assumed.
-/
import Derived.Test.YtpcbpimlakehcaaBoArgs
import Derived.Test.YtpcbpimlakehcaaItemArgs
import Derived.Test.YtpcbpimlakehcaaItemMayS
import Derived.Test.YtpcbpimlakehcaaItemRPut
namespace Go.Proofs.Ytpcbpimlakehcaa.BoundRoom
open Go.ChangeShapes Go.WideShapes Go.ChangeAt Go.RowKit

theorem room_le {cl sq kd id mt : Nat} {dt : ByteArray} (hm : ReqV.may ⟨cl, sq, kd, id, mt, dt⟩) : (reqBytes cl sq kd id mt dt.data.toList).length ≤ 124 := by
  simp only [ReqV.may] at hm
  have hdl : dt.data.toList.length = dt.size := by simp
  have n1 := Lib.uvarint_length 0 cl (by omega)
  have n2 := Lib.uvarint_length 4 sq (by omega)
  have n3 := Lib.uvarint_length 0 kd (by omega)
  have n4 := Lib.uvarint_length 0 id (by omega)
  have n5 := Lib.uvarint_length 0 mt (by omega)
  have n6 := Lib.uvarint_length 0 dt.data.toList.length (by omega)
  unfold reqBytes
  simp only [List.length_append]
  omega

set_option maxRecDepth 100000 in
set_option maxHeartbeats 4000000 in
theorem walk (cl sq kd id mt : Int) (dt : ByteArray) (w : World) (hs : dt.size ≤ 9223372036854775807) :
    Calls Try.prog 12 #[.agg #[.int .i64 cl, .int .i64 sq, .int .i64 kd, .int .i64 id, .int .i64 mt, .string dt]] w fun e w' => e = .returned (.bool true) ∧ Below w.heap.size w w' := by
  have HT := Lib.hid (fun u => told24_any u)
  obtain ⟨M, hM⟩ : ∃ M, M = decide (ReqV.may ⟨cl, sq, kd, id, mt, dt⟩) := ⟨_, rfl⟩
  have HM := Lib.hid (fun u => refmay_r cl sq kd id mt dt hs M hM u)
  have HX : Hid ((w.alloc (.cells #[.int .i64 cl, .int .i64 sq, .int .i64 kd, .int .i64 id, .int .i64 mt, .string dt] 33)).heap[w.heap.size]? = some (.cells #[.int .i64 cl, .int .i64 sq, .int .i64 kd, .int .i64 id, .int .i64 mt, .string dt] 33 (0, 0))) := heap_alloc_new w _
  have HB : Hid (Below w.heap.size w (w.alloc (.cells #[.int .i64 cl, .int .i64 sq, .int .i64 kd, .int .i64 id, .int .i64 mt, .string dt] 33))) := (Below.refl _ w).alloc (Nat.le_refl _) _
  obtain ⟨W1, hW1⟩ : ∃ W1, W1 = w.alloc (.cells #[.int .i64 cl, .int .i64 sq, .int .i64 kd, .int .i64 id, .int .i64 mt, .string dt] 33) := ⟨_, rfl⟩
  rw [← hW1] at HX HB
  have HC : Hid (∀ u, Below W1.heap.size W1 u → u.cell? ⟨w.heap.size, 0, none⟩ = some (.int .i64 cl) ∧ u.cell? ⟨w.heap.size, 1, none⟩ = some (.int .i64 sq) ∧ u.cell? ⟨w.heap.size, 2, none⟩ = some (.int .i64 kd) ∧ u.cell? ⟨w.heap.size, 3, none⟩ = some (.int .i64 id) ∧ u.cell? ⟨w.heap.size, 4, none⟩ = some (.int .i64 mt) ∧ u.cell? ⟨w.heap.size, 5, none⟩ = some (.string dt)) := fun u hu => by
    have h := (hu.block _ (lt_of_block HX.out)).trans HX.out
    exact ⟨by simp [World.cell?, h], by simp [World.cell?, h], by simp [World.cell?, h], by simp [World.cell?, h], by simp [World.cell?, h], by simp [World.cell?, h]⟩
  obtain ⟨c0, c1, c2, c3, c4, c5⟩ := HC.out _ (Below.refl _ _)
  clear HX
  go_enter Try.func12, Try.ntmps12
  by_cases hb : 100 < dt.size
  · have hb' : (100 : Int) < (dt.size : Int) := by omega
    clear hM HM
    go_wp2_with fail
    rw [← hW1]
    with_reducible refine (HT.out _).mono ?_
    rintro e w1 ⟨rfl, B1⟩
    have HB1 := Lib.hid (HB.out.trans (B1.mono HB.out.size))
    clear B1 c0 c1 c2 c3 c4 c5 HC
    go_wp2
    go_returns
    exact ⟨by first | rfl | (simp; done), HB1.out⟩
  have hb' : ¬ (100 : Int) < (dt.size : Int) := by omega
  cases M
  · clear hM
    go_wp2_with fail
    rw [← hW1]
    with_reducible refine (HM.out _).mono ?_
    rintro e w1 ⟨rfl, B1⟩
    have HB1 := Lib.hid (HB.out.trans (B1.mono HB.out.size))
    clear B1 c0 c1 c2 c3 c4 c5 HC
    go_wp2_with fail
    with_reducible refine (HT.out _).mono ?_
    rintro e w2 ⟨rfl, B2⟩
    have HB2 := Lib.hid (HB1.out.trans (B2.mono HB1.out.size))
    clear B2 HB1
    go_wp2
    go_returns
    exact ⟨by first | rfl | (simp; done), HB2.out⟩
  · have hm := of_decide_eq_true hM.symm
    obtain ⟨n0, n1, n2, n3, n4⟩ : 0 ≤ cl ∧ 0 ≤ sq ∧ 0 ≤ kd ∧ 0 ≤ id ∧ 0 ≤ mt := by
      have := hm
      simp only [ReqV.may] at this
      omega
    obtain ⟨a, ha⟩ : ∃ n : Nat, cl = (n : Int) := ⟨cl.toNat, by omega⟩
    obtain ⟨b, hb⟩ : ∃ n : Nat, sq = (n : Int) := ⟨sq.toNat, by omega⟩
    obtain ⟨c, hc⟩ : ∃ n : Nat, kd = (n : Int) := ⟨kd.toNat, by omega⟩
    obtain ⟨d, hd⟩ : ∃ n : Nat, id = (n : Int) := ⟨id.toNat, by omega⟩
    obtain ⟨f, hf⟩ : ∃ n : Nat, mt = (n : Int) := ⟨mt.toNat, by omega⟩
    have HP : Hid (∃ l : List UInt8, l.length ≤ 124 ∧ ∀ u, Calls Try.prog 51 #[.agg #[.int .i64 cl, .int .i64 sq, .int .i64 kd, .int .i64 id, .int .i64 mt, .string dt]] u fun e w' => e = .returned (.string (txt l)) ∧ Below u.heap.size u w') := by
      subst ha hb hc hd hf
      exact ⟨_, room_le hm, fun u => refputreq_any a b c d f dt hm u⟩
    clear ha hb hc hd hf a b c d f hm hM n0 n1 n2 n3 n4
    obtain ⟨l, hl, hp⟩ := HP.out
    clear HP
    have HP := Lib.hid hp
    clear hp
    have HL : Hid ((txt l).size = l.length) := by show (txt l).size = l.length; exact List.size_toArray
    obtain ⟨S, hS⟩ : ∃ S, S = txt l := ⟨_, rfl⟩
    rw [← hS] at HP HL
    have hl2 : S.size ≤ 124 := by rw [HL.out]; exact hl
    have hl3 : (S.size : Int) + 6 ≤ 130 := by omega
    have HWR : Hid (IntKind.i64.wrap ((S.size : Int) + 6) = (S.size : Int) + 6) := by show _ = _; rw [IntKind.wrap_i64]; omega
    clear hS HL hl
    have HY := Lib.hid (fun u => bobytes_r 1 1 1 1 u 130 (show bytK 1 1 1 1 = 130 by decide))
    go_wp2_with fail
    rw [← hW1]
    with_reducible refine (HM.out _).mono ?_
    rintro e w1 ⟨rfl, B1⟩
    have HB1 := Lib.hid (HB.out.trans (B1.mono HB.out.size))
    have HC1 : Hid (∀ u, Below w1.heap.size w1 u → u.cell? ⟨w.heap.size, 0, none⟩ = some (.int .i64 cl) ∧ u.cell? ⟨w.heap.size, 1, none⟩ = some (.int .i64 sq) ∧ u.cell? ⟨w.heap.size, 2, none⟩ = some (.int .i64 kd) ∧ u.cell? ⟨w.heap.size, 3, none⟩ = some (.int .i64 id) ∧ u.cell? ⟨w.heap.size, 4, none⟩ = some (.int .i64 mt) ∧ u.cell? ⟨w.heap.size, 5, none⟩ = some (.string dt)) := fun u hu => HC.out u (B1.trans (hu.mono B1.size))
    clear B1 c0 c1 c2 c3 c4 c5 HC hW1 HM
    have HB2 : Hid (Below w.heap.size w (w1.alloc (.cells #[.int .i64 1, .int .i64 1, .int .i64 1] 81))) := HB1.out.alloc HB1.out.size _
    have D2 : Hid (ConB w1.heap.size 1 1 1 (w1.alloc (.cells #[.int .i64 1, .int .i64 1, .int .i64 1] 81))) := heap_alloc_new w1 _
    have HC2 : Hid (Below w1.heap.size w1 (w1.alloc (.cells #[.int .i64 1, .int .i64 1, .int .i64 1] 81))) := (Below.refl _ _).alloc (Nat.le_refl _) _
    go_wp2_with fail
    obtain ⟨W2, hW2⟩ : ∃ W2, W2 = w1.alloc (.cells #[.int .i64 1, .int .i64 1, .int .i64 1] 81) := ⟨_, rfl⟩
    rw [← hW2] at HB2 D2 HC2 ⊢
    clear hW2
    have FX : Hid (∀ u, Below W2.heap.size W2 u → (u.cell? ⟨w.heap.size, 0, none⟩ = some (.int .i64 cl) ∧ u.cell? ⟨w.heap.size, 1, none⟩ = some (.int .i64 sq) ∧ u.cell? ⟨w.heap.size, 2, none⟩ = some (.int .i64 kd) ∧ u.cell? ⟨w.heap.size, 3, none⟩ = some (.int .i64 id) ∧ u.cell? ⟨w.heap.size, 4, none⟩ = some (.int .i64 mt) ∧ u.cell? ⟨w.heap.size, 5, none⟩ = some (.string dt)) ∧ u.cell? ⟨w1.heap.size, 0, none⟩ = some (.int .i64 1) ∧ u.cell? ⟨w1.heap.size, 1, none⟩ = some (.int .i64 1) ∧ u.cell? ⟨w1.heap.size, 2, none⟩ = some (.int .i64 1)) := fun u hu => ⟨HC1.out u (HC2.out.trans (hu.mono HC2.out.size)), (D2.out.on hu).cells⟩
    refine region_quiet (fun v => Below W2.heap.size W2 v) (by kernel_rfl) (by kernel_rfl) (Below.refl _ _).drew ?_
    repeat (first
      | go_big_quiet_skip
      | (go_big_quiet_want
         (first
          | (refine quiet_run (v := ?_) ?_ ?_; rotate_left; (intro u hu; obtain ⟨⟨c0, c1, c2, c3, c4, c5⟩, d0, d1, d2⟩ := FX.out u hu; go_simp <;> with_reducible rfl); simp only [Act.put, List.setIfInBounds_toArray, List.set_cons_zero, List.set_cons_succ]; go_big_quiet_on)
          | (refine quiet_enter 43 _ ?_ (fun u hu => (HT.out u).mono fun e u' ⟨he, hb⟩ => ⟨he, hu.trans (hb.mono hu.size)⟩) ?_; (focus (intro u; first | (go_simp; done) | (go_simp; with_reducible rfl))); simp only [Act.put, List.setIfInBounds_toArray, List.set_cons_zero, List.set_cons_succ]; go_big_quiet_on)
          | (refine quiet_enter 51 _ ?_ (fun u hu => (HP.out u).mono fun e u' ⟨he, hb⟩ => ⟨he, hu.trans (hb.mono hu.size)⟩) ?_; (focus (intro u; first | (go_simp; done) | (go_simp; with_reducible rfl))); simp only [Act.put, List.setIfInBounds_toArray, List.set_cons_zero, List.set_cons_succ]; go_big_quiet_on)
          | (refine quiet_enter 48 _ ?_ (fun u hu => (HY.out u).mono fun e u' ⟨he, hb⟩ => ⟨he, hu.trans (hb.mono hu.size)⟩) ?_; (focus (intro u; first | (go_simp; done) | (go_simp; with_reducible rfl))); simp only [Act.put, List.setIfInBounds_toArray, List.set_cons_zero, List.set_cons_succ]; go_big_quiet_on))))
    refine wpQuiet_nil ?_
    intro w4 h4
    have C4 : Hid (Below w.heap.size w w4) := HB2.out.trans (h4.mono HB2.out.size)
    clear FX h4
    go_wp2
    go_returns
    exact ⟨ret_bool (by rw [HWR.out]; first | (simp; done) | (simp; omega)), C4.out⟩

set_option maxRecDepth 100000 in
theorem lifted (os : Os) (started : os.Started) (H : Type) (enc : TypeId × Value → H) :
    ReturnsInHanded {} Try.checked os 12 .any (Rows.boundRoomSpec.pre6 enc Try.prog Try.f12 Rows.boundRoomRow.domain false) (Rows.boundRoomSpec.post enc Try.prog Try.f12 false true false false) := by
  refine returnsInHanded_of_change (C := Try.checked) own started (by kernel_rfl) Try.func12
    (ChangeSpec.witness6 (enc := enc) (C := Try.checked) false ⟨#[], #[.agg #[.int .i64 0, .int .i64 0, .int .i64 0, .int .i64 0, .int .i64 0, .string ByteArray.empty]], []⟩ 8 (by kernel_rfl) (by kernel_rfl) (by kernel_rfl) (by kernel_rfl)) ?_
  intro W base args ds gs before hval0 hW hcnd _
  have hval : ∀ (j : Nat) t v, Try.f12.params[j]? = some t → args[j]? = some v → Value.okWide Try.prog W .any base t v := hval0
  have hW' := hW
  obtain ⟨p, q, hA0, hV, rfl, hfz, hnd⟩ := hW
  have hA : DataW.TrodAll enc Try.prog W 0 (fun _ => true) true Try.f12.params.toList args.toList ds p := hA0
  rw [Try.params12] at hA hval
  obtain ⟨v0, vs0, d0, ds0, p0, q0, hargs, rfl, rfl, h0, r0⟩ := trodAll_cons hA
  obtain ⟨rfl, rfl, rfl⟩ := trodAll_nil r0
  obtain rfl : args = #[v0] := by cases args; simp_all
  obtain ⟨rfl, rfl⟩ := trodVars_none hV
  have k0 := h0
  have lt0 : ∀ x ∈ p0, x.block < W.heap.size := by obtain ⟨m, hm⟩ := k0; exact DataW.trod_lt m _ _ _ hm
  obtain ⟨⟨xa0, xb0, xc0, xd0, xe0, xf0⟩, w0, rfl⟩ := req_open (hval 0 33 v0 rfl rfl) h0
  clear hA0 hval0
  refine (walk xa0 xb0 xc0 xd0 xe0 xf0 W w0).mono fun e W' ⟨he, bel⟩ => ?_
  subst he
  exact ⟨_, rfl, _, _, _, [], _, [], hW', trodAll_mk1 (shut_bool Try.underlying4 _), (trodAll_cons_mk (Below.trod laidOut (by kernel_rfl) (of_decide_eq_true (by kernel_rfl)) k0 bel lt0) trodAll_mk0), rfl, bel.frame _, fun h => by cases h⟩

theorem over : Rows.boundRoomRow.holds Try.pinned (OpenSpec.ofChange Rows.boundRoomSpec) :=
  OpenClaim.holds_of_wide 12 Try.f12 rfl rfl rfl rfl rfl rfl rfl ⟨rfl, rfl, rfl, rfl, rfl⟩ rfl rfl rfl rfl rfl (by kernel_rfl) Try.func12 (by kernel_rfl)
    (of_decide_eq_true (by kernel_rfl)) (by unfold Func.isWrapper; first | (rw [if_pos (by decide +kernel)]; kernel_rfl) | (rw [if_neg (by decide +kernel)]; exact ⟨rfl, rfl⟩))
    (fun os started H enc _ => lifted os started H enc)
end Go.Proofs.Ytpcbpimlakehcaa.BoundRoom

namespace Go.Proofs.Ytpcbpimlakehcaa
theorem boundRoom_holds : Rows.BoundRoomSaid := BoundRoom.over
#print axioms boundRoom_holds
end Go.Proofs.Ytpcbpimlakehcaa
