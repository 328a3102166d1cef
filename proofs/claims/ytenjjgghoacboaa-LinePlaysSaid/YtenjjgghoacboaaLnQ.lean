/-
  THE LOG's Put AND Take, by contract. No condition but that a log has at most a million requests.
-/
import Derived.Test.YtenjjgghoacboaaLnR
import Derived.Deep.RegionWith
import Derived.BigRegion
import Derived.Deep.RegionHeldLaw
namespace Go.Proofs.Ytenjjgghoacboaa
open Go.RowKit

/-- What is refused. -/
def LRef (x : Int) (w : World) (e : Ending) (w' : World) : Prop := e = .returned (.tuple #[.int .i64 0, .int .i64 x]) ∧ Below w.heap.size w w'
set_option maxHeartbeats 1000000 in
theorem lput_nil (cl sq kd id mt : Int) (dt : ByteArray) (w : World) : Calls Try.prog 19 #[.pointer none, .agg #[.int .i64 cl, .int .i64 sq, .int .i64 kd, .int .i64 id, .int .i64 mt, .string dt]] w (LRef 1 w) := by
  have HM := Lib.hid (fun u => lmade_nil u)
  go_enter Try.func19, Try.ntmps19
  go_wp2_with fail
  refine (HM.out _).mono ?_
  rintro e w1 ⟨rfl, rfl⟩
  go_wp2
  go_returns
  exact ⟨rfl, by go_grown⟩
section
variable {w : World} {n g d : Nat} {vq vr : Value} {vp : Nat → Value} {q : Int} {L : List ReqV} {K : List RcV}
set_option maxHeartbeats 1000000 in
theorem lput_bad1 (H : Lin w n g d vq vr vp q L K) (cl sq kd id mt : Int) (dt : ByteArray) (HM : Hid (∀ u, Calls Try.prog 59 #[.agg #[.int .i64 cl, .int .i64 sq, .int .i64 kd, .int .i64 id, .int .i64 mt, .string dt]] u fun e w' => e = .returned (.bool false) ∧ Below u.heap.size u w')) : Calls Try.prog 19 #[.pointer (some ⟨g, 0, none⟩), .agg #[.int .i64 cl, .int .i64 sq, .int .i64 kd, .int .i64 id, .int .i64 mt, .string dt]] w (LRef 1 w) := by
  have HD := Lib.hid (fun o => lmade_r (H.on ((Below.refl _ _).alloc (Nat.le_refl _) o)))
  clear H
  go_enter Try.func19, Try.ntmps19
  go_wp2_with fail
  refine (HD.out _).mono ?_
  rintro e w1 ⟨rfl, rfl⟩
  go_wp2_with fail
  refine (HM.out _).mono ?_
  rintro e w2 ⟨rfl, B2⟩
  have HB := Lib.hid (((Below.refl _ w).alloc (Nat.le_refl _) (.cells #[.int .i64 cl, .int .i64 sq, .int .i64 kd, .int .i64 id, .int .i64 mt, .string dt] 34)).trans (B2.mono (by simp)))
  clear B2
  go_wp2
  go_returns
  exact ⟨rfl, HB.out⟩
set_option maxHeartbeats 1000000 in
theorem lput_bad2 (H : Lin w n g d vq vr vp q L K) (cl sq kd id mt : Int) (dt : ByteArray) (HM : Hid (∀ u, Calls Try.prog 59 #[.agg #[.int .i64 cl, .int .i64 sq, .int .i64 kd, .int .i64 id, .int .i64 mt, .string dt]] u fun e w' => e = .returned (.bool true) ∧ Below u.heap.size u w')) (HW : Hid (∀ u, Calls Try.prog 60 #[.agg #[.int .i64 cl, .int .i64 sq, .int .i64 kd, .int .i64 id, .int .i64 mt, .string dt]] u fun e w' => e = .returned (.bool false) ∧ Below u.heap.size u w')) : Calls Try.prog 19 #[.pointer (some ⟨g, 0, none⟩), .agg #[.int .i64 cl, .int .i64 sq, .int .i64 kd, .int .i64 id, .int .i64 mt, .string dt]] w (LRef 1 w) := by
  have HD := Lib.hid (fun o => lmade_r (H.on ((Below.refl _ _).alloc (Nat.le_refl _) o)))
  clear H
  go_enter Try.func19, Try.ntmps19
  go_wp2_with fail
  refine (HD.out _).mono ?_
  rintro e w1 ⟨rfl, rfl⟩
  go_wp2_with fail
  refine (HM.out _).mono ?_
  rintro e w2 ⟨rfl, B2⟩
  have HB := Lib.hid (((Below.refl _ w).alloc (Nat.le_refl _) (.cells #[.int .i64 cl, .int .i64 sq, .int .i64 kd, .int .i64 id, .int .i64 mt, .string dt] 34)).trans (B2.mono (by simp)))
  have HR := Lib.hid ((ReqB.fresh w cl sq kd id mt dt 34).keep B2 (by simp))
  obtain ⟨c0, c1, c2, c3, c4, c5⟩ := HR.out.cells
  clear B2
  go_wp2_with fail
  refine (HW.out _).mono ?_
  rintro e w3 ⟨rfl, B3⟩
  have HB3 := Lib.hid (HB.out.trans (B3.mono HB.out.size))
  clear B3
  go_wp2
  go_returns
  exact ⟨rfl, HB3.out⟩
set_option maxRecDepth 100000 in
set_option maxHeartbeats 2000000 in
theorem lput_old (H : Lin w n g d vq vr vp q L K) (hl6 : L.length ≤ 1000000) (c sq kd id mt : Int) (dt : ByteArray) (ls : Int) (hls : seqV L c = ls) (HM : Hid (∀ u, Calls Try.prog 59 #[.agg #[.int .i64 c, .int .i64 sq, .int .i64 kd, .int .i64 id, .int .i64 mt, .string dt]] u fun e w' => e = .returned (.bool true) ∧ Below u.heap.size u w')) (HW : Hid (∀ u, Calls Try.prog 60 #[.agg #[.int .i64 c, .int .i64 sq, .int .i64 kd, .int .i64 id, .int .i64 mt, .string dt]] u fun e w' => e = .returned (.bool true) ∧ Below u.heap.size u w')) (HN : Hid (∀ u, Calls Try.prog 61 #[.agg #[.int .i64 c, .int .i64 sq, .int .i64 kd, .int .i64 id, .int .i64 mt, .string dt], .int .i64 ls] u fun e w' => e = .returned (.bool false) ∧ Below u.heap.size u w')) : Calls Try.prog 19 #[.pointer (some ⟨g, 0, none⟩), .agg #[.int .i64 c, .int .i64 sq, .int .i64 kd, .int .i64 id, .int .i64 mt, .string dt]] w (LRef 9 w) := by
  have HD := Lib.hid (fun o => lmade_r (H.on ((Below.refl _ _).alloc (Nat.le_refl _) o)))
  have HL := Lib.hid H
  clear H
  go_enter Try.func19, Try.ntmps19
  go_wp2_with fail
  refine (HD.out _).mono ?_
  rintro e w1 ⟨rfl, rfl⟩
  go_wp2_with fail
  refine (HM.out _).mono ?_
  rintro e w2 ⟨rfl, B2⟩
  have HB := Lib.hid (((Below.refl _ w).alloc (Nat.le_refl _) (.cells #[.int .i64 c, .int .i64 sq, .int .i64 kd, .int .i64 id, .int .i64 mt, .string dt] 34)).trans (B2.mono (by simp)))
  have HR := Lib.hid ((ReqB.fresh w c sq kd id mt dt 34).keep B2 (by simp))
  obtain ⟨c0, c1, c2, c3, c4, c5⟩ := HR.out.cells
  clear B2
  go_wp2_with fail
  refine (HW.out _).mono ?_
  rintro e w3 ⟨rfl, B3⟩
  have HB3 := Lib.hid (HB.out.trans (B3.mono HB.out.size))
  have HR3 := Lib.hid (HR.out.keep B3 HR.out.lt)
  have HL3 := Lib.hid (HL.out.on HB3.out)
  clear B3 HB HR HL c0 c1 c2 c3 c4 c5
  have FX : Hid (∀ u, Below w3.heap.size w3 u → u.cell? ⟨w.heap.size, 0, none⟩ = some (.int .i64 c) ∧ u.cell? ⟨w.heap.size, 1, none⟩ = some (.int .i64 sq) ∧ u.cell? ⟨w.heap.size, 2, none⟩ = some (.int .i64 kd) ∧ u.cell? ⟨w.heap.size, 3, none⟩ = some (.int .i64 id) ∧ u.cell? ⟨w.heap.size, 4, none⟩ = some (.int .i64 mt) ∧ u.cell? ⟨w.heap.size, 5, none⟩ = some (.string dt)) :=
    fun u hu => (HR3.out.keep hu HR3.out.lt).cells
  have HS : Hid (∀ u, Below w3.heap.size w3 u → Calls Try.prog 46 #[.pointer (some ⟨g, 0, none⟩), .int .i64 c] u fun e w' => e = .returned (.int .i64 ls) ∧ Below u.heap.size u w') :=
    fun u hu => lseq_r (HL3.out.on hu) hl6 c ls hls
  have P0 : Below w3.heap.size w3 w3.drew := (Below.refl _ _).drew
  obtain ⟨c0, c1, c2, c3, c4, c5⟩ := HR3.out.cells
  go_wp2_with fail
  refine region_quiet (fun v => Below w3.heap.size w3 v) (by kernel_rfl) (by kernel_rfl) P0 ?_
  repeat (first
    | go_big_quiet_skip
    | (go_big_quiet_want
       (first
        | (refine quiet_run (v := ?_) ?_ ?_; rotate_left; (intro u hu; obtain ⟨x0, x1, x2, x3, x4, x5⟩ := FX.out u hu; go_simp <;> with_reducible rfl); simp only [Act.put, List.setIfInBounds_toArray, List.set_cons_zero, List.set_cons_succ]; go_big_quiet_on)
        | (refine quiet_enter 46 _ ?_ (fun u hu => (HS.out u hu).mono fun e u' ⟨he, hb⟩ => ⟨he, hu.trans (hb.mono hu.size)⟩) ?_; (focus (intro u; first | (go_simp; done) | (go_simp; with_reducible rfl))); simp only [Act.put, List.setIfInBounds_toArray, List.set_cons_zero, List.set_cons_succ]; go_big_quiet_on)
        | (refine quiet_enter 61 _ ?_ (fun u hu => (HN.out u).mono fun e u' ⟨he, hb⟩ => ⟨he, hu.trans (hb.mono hu.size)⟩) ?_; (focus (intro u; first | (go_simp; done) | (go_simp; with_reducible rfl))); simp only [Act.put, List.setIfInBounds_toArray, List.set_cons_zero, List.set_cons_succ]; go_big_quiet_on))))
  refine wpQuiet_nil ?_
  intro w4 hB4
  have HB4 := Lib.hid (HB3.out.trans (hB4.mono HB3.out.size))
  clear hB4 P0 c0 c1 c2 c3 c4 c5
  go_wp2
  go_returns
  exact ⟨rfl, HB4.out⟩
end
theorem info_Req18 : (Try.prog.info? 34).map (fun i => (i.zero, i.size, i.bytes)) = some (some (.agg #[.int .i64 0, .int .i64 0, .int .i64 0, .int .i64 0, .int .i64 0, .string ⟨#[]⟩]), 6, 56) := by kernel_rfl
theorem zb_req : ∀ u ∈ (Value.agg #[.int .i64 0, .int .i64 0, .int .i64 0, .int .i64 0, .int .i64 0, .string ⟨#[]⟩]).cells.toList, ∀ x, u ≠ .bool x := by
  intro u hu x
  simp [Value.cells] at hu
  rcases hu with rfl | rfl <;> simp
theorem zb_int : ∀ u ∈ (Value.int .i64 0).cells.toList, ∀ x, u ≠ .bool x := by
  intro u hu x
  simp [Value.cells] at hu
  rw [hu]; simp
theorem info_int18 : (Try.prog.info? 3).map (fun i => (i.zero, i.size, i.bytes)) = some (some (.int .i64 0), 1, 8) := by kernel_rfl
theorem req_src {u : World} {p : Nat} {r : ReqV} (hh : u.heap[p]? = some (.cells (reqC r).toArray 34 (0, 0))) : Src Try.prog 6 29 (.slice (some ⟨p, 0, none⟩) 1 1) 1 (reqC r) u := by
  refine Src.ofSlice _ Try.underlying29 ⟨p, 0, none⟩ 1 1 (reqC r) rfl ?_ fun u hu => ?_
  · intro j x hj
    rw [Addr.add_lit, Nat.zero_add, cell_of_row _ _ _ _ _ _ hh, List.getElem?_toArray]
    exact hj
  · simp only [reqC, List.mem_cons, List.not_mem_nil, or_false] at hu
    rcases hu with rfl | rfl | rfl | rfl | rfl | rfl <;> rfl
theorem int_src {u : World} {p : Nat} {x : Int} (hh : u.heap[p]? = some (.cells #[.int .i64 x] 3 (0, 0))) : Src Try.prog 1 41 (.slice (some ⟨p, 0, none⟩) 1 1) 1 [.int .i64 x] u := by
  refine Src.ofSlice _ Try.underlying41 ⟨p, 0, none⟩ 1 1 [.int .i64 x] rfl ?_ fun u hu => ?_
  · intro j y hj
    rw [Addr.add_lit, Nat.zero_add, cell_of_row _ _ _ _ _ _ hh]
    simpa using hj
  · rw [List.mem_singleton.1 hu]; rfl
set_option maxHeartbeats 400000 in
theorem llen_cell {w : World} {g N c : Nat} {a : Option Addr} (h : w.cell? ⟨g, 1, none⟩ = some (.slice a N c)) : Calls Try.prog 15 #[.pointer (some ⟨g, 0, none⟩)] w fun e w' => e = .returned (.int .i64 N) ∧ w = w' := by
  go_enter Try.func15, Try.ntmps15
  go_wp2
  go_returns
  exact ⟨rfl, rfl⟩
theorem ReqB.only {S : Nat → Prop} {w w' : World} {b : Nat} {cl sq kd id mt : Int} {dt : ByteArray} (h : ReqB w b cl sq kd id mt dt) (ho : Only S w w') (hs : ¬ S b) : ReqB w' b cl sq kd id mt dt := by
  have hlt := h.lt
  obtain ⟨e, h⟩ := h
  exact ⟨e, (ho.block b hlt hs).trans h⟩
theorem last_put (L : List ReqV) (r : ReqV) (i : Nat) (hi : r.id = (i : Int)) : updF (lastL L) i ((L.length : Int) + 1) = lastL (L ++ [r]) := by
  funext j
  rw [lastL_app, hi]
  by_cases e : j = i
  · subst e; rw [updF_same, if_pos rfl]
  · rw [updF_other _ _ _ _ e, if_neg (by omega)]
theorem places_put (L : List ReqV) (r : ReqV) (c : Nat) (hc : r.client = (c : Int)) : updF (placesL L) c (placesL L c ++ [(L.length : Int) + 1]) = placesL (L ++ [r]) := by
  funext j
  rw [placesL_app, hc]
  by_cases e : j = c
  · subst e; rw [updF_same, if_pos rfl]
  · rw [updF_other _ _ _ _ e, if_neg (by omega), List.append_nil]
/-- What a Put that is done leaves. -/
def LPutR (n g d : Nat) (vq vr : Value) (vp : Nat → Value) (q : Int) (L : List ReqV) (K : List RcV) (r : ReqV) (w : World) (w' : World) : Prop :=
  ∃ vq' vp', Lin w' n g d vq' vr vp' q (L ++ [r]) K ∧ Only (LB g d vq vr vp) w w' ∧ ∀ x, LB g d vq' vr vp' x → LB g d vq vr vp x ∨ w.heap.size ≤ x
section
variable {w : World} {n g d : Nat} {vq vr : Value} {vp : Nat → Value} {q : Int} {L : List ReqV} {K : List RcV}
set_option maxRecDepth 100000 in
set_option maxHeartbeats 4000000 in
theorem lput_done (H : Lin w n g d vq vr vp q L K) (hl6 : L.length ≤ 1000000) (hnw : n ≤ w.heap.size) (c i : Nat) (hc : c < 4) (hi : i < 32) (sq kd mt : Int) (dt : ByteArray) (ls : Int) (hls : seqV L c = ls) (hsq : ls < sq) (hp : ReqV.puts ⟨c, sq, kd, i, mt, dt⟩) (HM : Hid (∀ u, Calls Try.prog 59 #[.agg #[.int .i64 c, .int .i64 sq, .int .i64 kd, .int .i64 i, .int .i64 mt, .string dt]] u fun e w' => e = .returned (.bool true) ∧ Below u.heap.size u w')) (HW : Hid (∀ u, Calls Try.prog 60 #[.agg #[.int .i64 c, .int .i64 sq, .int .i64 kd, .int .i64 i, .int .i64 mt, .string dt]] u fun e w' => e = .returned (.bool true) ∧ Below u.heap.size u w')) (HN : Hid (∀ u, Calls Try.prog 61 #[.agg #[.int .i64 c, .int .i64 sq, .int .i64 kd, .int .i64 i, .int .i64 mt, .string dt], .int .i64 ls] u fun e w' => e = .returned (.bool true) ∧ Below u.heap.size u w')) (HY : Hid (∀ u, Calls Try.prog 62 #[.agg #[.int .i64 c, .int .i64 sq, .int .i64 kd, .int .i64 i, .int .i64 mt, .string dt]] u fun e w' => e = .returned (.int .i64 i) ∧ Below u.heap.size u w'))
    : Calls Try.prog 19 #[.pointer (some ⟨g, 0, none⟩), .agg #[.int .i64 c, .int .i64 sq, .int .i64 kd, .int .i64 i, .int .i64 mt, .string dt]] w fun e w' => e = .returned (.tuple #[.int .i64 ((L.length : Int) + 1), .int .i64 0]) ∧ LPutR n g d vq vr vp q L K ⟨c, sq, kd, i, mt, dt⟩ w w' := by
  have HOLD := Lib.hid H
  obtain ⟨i0, hi1, hz0, hz1, hz2⟩ := info_parts info_Req18
  obtain ⟨i2, hi3, hy0, hy1, hy2⟩ := info_parts info_int18
  have HSQ : Hid (seqL L c < sq) := by
    show _ < _
    rw [seqV, if_pos (by omega), Int.toNat_natCast] at hls
    rw [hls]; exact hsq
  have HPU := Lib.hid hp
  clear hp hsq
  have HD := Lib.hid (fun o => lmade_r (H.on ((Below.refl _ _).alloc (Nat.le_refl _) o)))
  have HL := Lib.hid H
  clear H
  go_enter Try.func19, Try.ntmps19
  go_wp2_with fail
  refine (HD.out _).mono ?_
  rintro e w1 ⟨rfl, rfl⟩
  go_wp2_with fail
  refine (HM.out _).mono ?_
  rintro e w2 ⟨rfl, B2⟩
  have HB := Lib.hid (((Below.refl _ w).alloc (Nat.le_refl _) (.cells #[.int .i64 c, .int .i64 sq, .int .i64 kd, .int .i64 i, .int .i64 mt, .string dt] 34)).trans (B2.mono (by simp)))
  have HR := Lib.hid ((ReqB.fresh w c sq kd i mt dt 34).keep B2 (by simp))
  obtain ⟨c0, c1, c2, c3, c4, c5⟩ := HR.out.cells
  clear B2
  go_wp2_with fail
  refine (HW.out _).mono ?_
  rintro e w3 ⟨rfl, B3⟩
  have HB3 := Lib.hid (HB.out.trans (B3.mono HB.out.size))
  have HR3 := Lib.hid (HR.out.keep B3 HR.out.lt)
  have HL3 := Lib.hid (HL.out.on HB3.out)
  clear B3 HB HR HL c0 c1 c2 c3 c4 c5
  have FX : Hid (∀ u, Below w3.heap.size w3 u → u.cell? ⟨w.heap.size, 0, none⟩ = some (.int .i64 c) ∧ u.cell? ⟨w.heap.size, 1, none⟩ = some (.int .i64 sq) ∧ u.cell? ⟨w.heap.size, 2, none⟩ = some (.int .i64 kd) ∧ u.cell? ⟨w.heap.size, 3, none⟩ = some (.int .i64 i) ∧ u.cell? ⟨w.heap.size, 4, none⟩ = some (.int .i64 mt) ∧ u.cell? ⟨w.heap.size, 5, none⟩ = some (.string dt)) :=
    fun u hu => (HR3.out.keep hu HR3.out.lt).cells
  have HS : Hid (∀ u, Below w3.heap.size w3 u → Calls Try.prog 46 #[.pointer (some ⟨g, 0, none⟩), .int .i64 c] u fun e w' => e = .returned (.int .i64 ls) ∧ Below u.heap.size u w') :=
    fun u hu => lseq_r (HL3.out.on hu) hl6 c ls hls
  have P0 : Below w3.heap.size w3 w3.drew := (Below.refl _ _).drew
  obtain ⟨c0, c1, c2, c3, c4, c5⟩ := HR3.out.cells
  go_wp2_with fail
  refine region_quiet (fun v => Below w3.heap.size w3 v) (by kernel_rfl) (by kernel_rfl) P0 ?_
  repeat (first
    | go_big_quiet_skip
    | (go_big_quiet_want
       (first
        | (refine quiet_run (v := ?_) ?_ ?_; rotate_left; (intro u hu; obtain ⟨x0, x1, x2, x3, x4, x5⟩ := FX.out u hu; go_simp <;> with_reducible rfl); simp only [Act.put, List.setIfInBounds_toArray, List.set_cons_zero, List.set_cons_succ]; go_big_quiet_on)
        | (refine quiet_enter 46 _ ?_ (fun u hu => (HS.out u hu).mono fun e u' ⟨he, hb⟩ => ⟨he, hu.trans (hb.mono hu.size)⟩) ?_; (focus (intro u; first | (go_simp; done) | (go_simp; with_reducible rfl))); simp only [Act.put, List.setIfInBounds_toArray, List.set_cons_zero, List.set_cons_succ]; go_big_quiet_on)
        | (refine quiet_enter 61 _ ?_ (fun u hu => (HN.out u).mono fun e u' ⟨he, hb⟩ => ⟨he, hu.trans (hb.mono hu.size)⟩) ?_; (focus (intro u; first | (go_simp; done) | (go_simp; with_reducible rfl))); simp only [Act.put, List.setIfInBounds_toArray, List.set_cons_zero, List.set_cons_succ]; go_big_quiet_on))))
  refine wpQuiet_nil ?_
  intro w4 hB4
  have HL4 := Lib.hid (HL3.out.on hB4)
  have HR4 := Lib.hid (HR3.out.keep hB4 HR3.out.lt)
  have HB4 := Lib.hid (HB3.out.trans (hB4.mono HB3.out.size))
  clear hB4 P0 c0 c1 c2 c3 c4 c5 HB3 HL3 HR3 FX HS HM HW HN
  obtain ⟨r, hr⟩ : ∃ r : ReqV, r = ⟨c, sq, kd, i, mt, dt⟩ := ⟨_, rfl⟩
  have HRC : Hid ((reqC r).toArray = #[.int .i64 c, .int .i64 sq, .int .i64 kd, .int .i64 i, .int .i64 mt, .string dt]) := by rw [hr]; exact rfl
  have HRV := Lib.hid hr
  rw [← hr] at HPU
  clear hr
  obtain ⟨qa, qc, rfl⟩ := HOLD.out.len
  obtain ⟨N, hN⟩ : ∃ N, N = L.length := ⟨_, rfl⟩
  have HNN := Lib.hid hN
  rw [← hN] at HOLD HL4 hl6
  have hnw4 : n ≤ w4.heap.size := Nat.le_trans hnw HB4.out.size
  have c0 := HL4.out.raw.c1.1
  obtain ⟨e0, e1, e2, e3, e4, e5⟩ := HR4.out.cells
  obtain ⟨W4, hW4⟩ : ∃ W4, W4 = (w4.alloc (.cells #[.int .i64 c, .int .i64 sq, .int .i64 kd, .int .i64 i, .int .i64 mt, .string dt] 34)).drew := ⟨_, rfl⟩
  have HW4 := Lib.hid hW4
  have HB44 : Hid (Below w4.heap.size w4 W4) := by rw [hW4]; exact ((Below.refl _ _).alloc (Nat.le_refl _) _).drew
  have HRaw : Hid (Raw W4 n g d (.slice qa N qc) vr vp q (lastL L) L (placesL L) K (stoOf q (L.take K.length))) := HL4.out.raw.on HB44.out
  have HSrc : Hid (Src Try.prog 6 29 (.slice (some ⟨w4.heap.size, 0, none⟩) 1 1) 1 (reqC r) W4) := by rw [hW4]; exact req_src (by rw [HRC.out]; exact heap_alloc_new w4 _)
  have hRowN : Hid (ORow W4 n 34 6 (.slice qa N qc) N (reqCs L)) := by have h := HRaw.out.row; rwa [← hN] at h
  have h63 : Hid (N + 1 ≤ maxLen) := by show _ ≤ _; unfold maxLen; omega
  have hby : Hid ((N + 1) * 56 ≤ 140737488355328) := by show _ ≤ _; omega
  have hba : Hid (n ≤ W4.heap.size) := Nat.le_trans hnw4 HB44.out.size
  have hg4 : g < w4.heap.size := HL4.out.lt
  have hr4 : w.heap.size < w4.heap.size := HR4.out.lt
  clear hW4 hN
  go_wp2_with fail
  go_region_law (first
    | (rw [← HW4.out]
       refine step_append_or rfl (.tmp 31) (.tmp 33) 29 29 rfl n 34 i0 (.agg #[.int .i64 0, .int .i64 0, .int .i64 0, .int .i64 0, .int .i64 0, .string ⟨#[]⟩]) 6 56 Try.underlying29 hi1 hz0 hz1 hz2 rfl zb_req (.slice qa N qc) N (reqCs L) (by simp [Act.eval]) hRowN.out _ 1 (reqC r) (by simp [Act.eval]) HSrc.out (reqC_nobool r) h63.out hby.out hba.out ?_
       intro v2 w5 O5 G5 V5
       have O5' := O5
       rw [HNN.out] at O5'
       obtain ⟨R6, x1, y1⟩ := HRaw.out.setReq O5' G5 V5
       have HO6 : Hid (Only (LB g d (.slice qa N qc) vr vp) w4 (w5.setCell ⟨g, 1, none⟩ v2)) := ((Only.of HB44.out).then (grown_only G5) (fun x _ hx => .inr (.inr (.inl hx)))).then (Only.set g 1 w5 v2) (fun x _ hx => .inl hx)
       have HV6 : Hid (∀ x, v2.ownBlock = some x → LB g d (.slice qa N qc) vr vp x ∨ w4.heap.size ≤ x) := fun x hx => (V5 x hx).imp (fun h => .inr (.inr (.inl h))) (fun h => Nat.le_trans HB44.out.size h)
       obtain ⟨a2, c2, rfl⟩ := own_shape O5.own
       have HR6 := Lib.hid R6
       clear O5 O5' G5 V5 R6))
  all_goals
    clear HRaw HSrc hRowN h63 hby hba HW4 c0 HL4
    obtain ⟨w6, hw6⟩ : ∃ w6, w6 = w5.setCell ⟨g, 1, none⟩ (.slice a2 (N + 1) c2) := ⟨_, rfl⟩
    rw [← hw6] at HR6 HO6 ⊢
    clear hw6 x1 y1
    have HLN := Lib.hid (llen_cell HR6.out.c1.1)
    have hnb : ¬ LB g d (.slice qa N qc) vr vp w.heap.size := fun h => by have := (HOLD.out.all h).2.1; omega
    have HRB := Lib.hid (HR4.out.only HO6.out hnb)
    have hsz6 : w4.heap.size ≤ w6.heap.size := HO6.out.size
    clear e0 e1 e2 e3 e4 e5
    obtain ⟨e0, e1, e2, e3, e4, e5⟩ := HRB.out.cells
    obtain ⟨pa, pc, hpc⟩ := HOLD.out.plen hc
    obtain ⟨P, hP⟩ : ∃ P, P = (placesL L c).length := ⟨_, rfl⟩
    rw [← hP] at hpc
    have HPP := Lib.hid hP
    have HPC := Lib.hid hpc
    have hPN : P ≤ N := by rw [hP, HNN.out]; exact placesL_le L c
    have p0 := (HR6.out.cp c hc).1
    rw [hpc] at p0
    have h63 : Hid (P + 1 ≤ maxLen) := by show _ ≤ _; unfold maxLen; omega
    have hby : Hid ((P + 1) * 8 ≤ 140737488355328) := by show _ ≤ _; omega
    have i0' : (0 : Int) ≤ (c : Int) := by omega
    have i1' : (c : Int) < 4 := by omega
    have hg6 : g < w6.heap.size := by omega
    have hgr : ¬ w.heap.size = g := by have := HOLD.out.lt; omega
    have hr6 : w.heap.size < w6.heap.size := by omega
    clear hP hpc
    go_wp2_with fail
    refine HLN.out.mono ?_
    rintro e w7 ⟨rfl, rfl⟩
    clear HLN
    go_wp2_with fail
    refine wp_region_held_drew (S := (fun u => u.cell? ⟨w.heap.size, 0, none⟩ = some (.int .i64 c))) (by kernel_rfl) (e0) (fun hHeld => ?_)
    first
      | (refine held_take 0 39 (v := ?_) rfl rfl (by kernel_rfl) (by kernel_rfl) (by kernel_rfl) (fun _ _ _ h => h) (by assumption) (by rfl) ?_ ?_; rotate_left; (focus (intro w hSw; (try dsimp only at hSw); go_simp <;> with_reducible rfl)))
      | refine held_pass 0 39 rfl rfl (by kernel_rfl) (by kernel_rfl) (by kernel_rfl) (fun _ _ _ h => h) (by assumption) (by rfl) ?_
    simp only [Act.put, List.setIfInBounds_toArray, List.set_cons_zero, List.set_cons_succ]
    first
      | (refine held_take 1 40 (v := ?_) rfl rfl (by kernel_rfl) (by kernel_rfl) (by kernel_rfl) (fun _ _ _ h => h) (by assumption) (by rfl) ?_ ?_; rotate_left; (focus (intro w hSw; (try dsimp only at hSw); go_simp <;> with_reducible rfl)))
      | refine held_pass 1 40 rfl rfl (by kernel_rfl) (by kernel_rfl) (by kernel_rfl) (fun _ _ _ h => h) (by assumption) (by rfl) ?_
    simp only [Act.put, List.setIfInBounds_toArray, List.set_cons_zero, List.set_cons_succ]
    first
      | (refine held_take 2 41 (v := ?_) rfl rfl (by kernel_rfl) (by kernel_rfl) (by kernel_rfl) (fun _ _ _ h => h) (by assumption) (by rfl) ?_ ?_; rotate_left; (focus (intro w hSw; (try dsimp only at hSw); go_simp <;> with_reducible rfl)))
      | refine held_pass 2 41 rfl rfl (by kernel_rfl) (by kernel_rfl) (by kernel_rfl) (fun _ _ _ h => h) (by assumption) (by rfl) ?_
    simp only [Act.put, List.setIfInBounds_toArray, List.set_cons_zero, List.set_cons_succ]
    first
      | (refine held_take 3 42 (v := ?_) rfl rfl (by kernel_rfl) (by kernel_rfl) (by kernel_rfl) (fun _ _ _ h => h) (by assumption) (by rfl) ?_ ?_; rotate_left; (focus (intro w hSw; (try dsimp only at hSw); go_simp <;> with_reducible rfl)))
      | refine held_pass 3 42 rfl rfl (by kernel_rfl) (by kernel_rfl) (by kernel_rfl) (fun _ _ _ h => h) (by assumption) (by rfl) ?_
    simp only [Act.put, List.setIfInBounds_toArray, List.set_cons_zero, List.set_cons_succ]
    first
      | (refine held_take 4 43 (v := ?_) rfl rfl (by kernel_rfl) (by kernel_rfl) (by kernel_rfl) (fun _ _ _ h => h) (by assumption) (by rfl) ?_ ?_; rotate_left; (focus (intro w hSw; (try dsimp only at hSw); go_simp <;> with_reducible rfl)))
      | refine held_pass 4 43 rfl rfl (by kernel_rfl) (by kernel_rfl) (by kernel_rfl) (fun _ _ _ h => h) (by assumption) (by rfl) ?_
    simp only [Act.put, List.setIfInBounds_toArray, List.set_cons_zero, List.set_cons_succ]
    first
      | (refine held_take 5 44 (v := ?_) rfl rfl (by kernel_rfl) (by kernel_rfl) (by kernel_rfl) (fun _ _ _ h => h) (by assumption) (by rfl) ?_ ?_; rotate_left; (focus (intro w hSw; (try dsimp only at hSw); go_simp <;> with_reducible rfl)))
      | refine held_pass 5 44 rfl rfl (by kernel_rfl) (by kernel_rfl) (by kernel_rfl) (fun _ _ _ h => h) (by assumption) (by rfl) ?_
    simp only [Act.put, List.setIfInBounds_toArray, List.set_cons_zero, List.set_cons_succ]
    first
      | (refine held_take 6 45 (v := ?_) rfl rfl (by kernel_rfl) (by kernel_rfl) (by kernel_rfl) (fun _ _ _ h => h) (by assumption) (by rfl) ?_ ?_; rotate_left; (focus (intro w hSw; (try dsimp only at hSw); go_simp <;> with_reducible rfl)))
      | refine held_pass 6 45 rfl rfl (by kernel_rfl) (by kernel_rfl) (by kernel_rfl) (fun _ _ _ h => h) (by assumption) (by rfl) ?_
    simp only [Act.put, List.setIfInBounds_toArray, List.set_cons_zero, List.set_cons_succ]
    first
      | (refine held_take 7 46 (v := ?_) rfl rfl (by kernel_rfl) (by kernel_rfl) (by kernel_rfl) (fun _ _ _ h => h) (by assumption) (by rfl) ?_ ?_; rotate_left; (focus (intro w hSw; (try dsimp only at hSw); go_simp <;> with_reducible rfl)))
      | refine held_pass 7 46 rfl rfl (by kernel_rfl) (by kernel_rfl) (by kernel_rfl) (fun _ _ _ h => h) (by assumption) (by rfl) ?_
    simp only [Act.put, List.setIfInBounds_toArray, List.set_cons_zero, List.set_cons_succ]
    first
      | (refine held_take 8 47 (v := ?_) rfl rfl (by kernel_rfl) (by kernel_rfl) (by kernel_rfl) (fun _ _ _ h => h) (by assumption) (by rfl) ?_ ?_; rotate_left; (focus (intro w hSw; (try dsimp only at hSw); go_simp <;> with_reducible rfl)))
      | refine held_pass 8 47 rfl rfl (by kernel_rfl) (by kernel_rfl) (by kernel_rfl) (fun _ _ _ h => h) (by assumption) (by rfl) ?_
    simp only [Act.put, List.setIfInBounds_toArray, List.set_cons_zero, List.set_cons_succ]
    first
      | (refine held_take 10 49 (v := ?_) rfl rfl (by kernel_rfl) (by kernel_rfl) (by kernel_rfl) (fun _ _ _ h => h) (by assumption) (by rfl) ?_ ?_; rotate_left; (focus (intro w hSw; (try dsimp only at hSw); go_simp <;> with_reducible rfl)))
      | refine held_pass 10 49 rfl rfl (by kernel_rfl) (by kernel_rfl) (by kernel_rfl) (fun _ _ _ h => h) (by assumption) (by rfl) ?_
    simp only [Act.put, List.setIfInBounds_toArray, List.set_cons_zero, List.set_cons_succ]
    first
      | (refine held_take 13 52 (v := ?_) rfl rfl (by kernel_rfl) (by kernel_rfl) (by kernel_rfl) (fun _ _ _ h => h) (by assumption) (by rfl) ?_ ?_; rotate_left; (focus (intro w hSw; (try dsimp only at hSw); go_simp <;> with_reducible rfl)))
      | refine held_pass 13 52 rfl rfl (by kernel_rfl) (by kernel_rfl) (by kernel_rfl) (fun _ _ _ h => h) (by assumption) (by rfl) ?_
    simp only [Act.put, List.setIfInBounds_toArray, List.set_cons_zero, List.set_cons_succ]
    first
      | (refine held_take 14 53 (v := ?_) rfl rfl (by kernel_rfl) (by kernel_rfl) (by kernel_rfl) (fun _ _ _ h => h) (by assumption) (by rfl) ?_ ?_; rotate_left; (focus (intro w hSw; (try dsimp only at hSw); go_simp <;> with_reducible rfl)))
      | refine held_pass 14 53 rfl rfl (by kernel_rfl) (by kernel_rfl) (by kernel_rfl) (fun _ _ _ h => h) (by assumption) (by rfl) ?_
    simp only [Act.put, List.setIfInBounds_toArray, List.set_cons_zero, List.set_cons_succ]
    obtain ⟨u0, hu0⟩ : ∃ u, u = w6.drew := ⟨_, rfl⟩
    have HB0 : Hid (Below w6.heap.size w6 u0) := by rw [hu0]; exact (Below.refl _ _).drew
    have HZ0 : Hid (u0.heap.size = w6.heap.size) := by rw [hu0]; rfl
    rw [← hu0] at hHeld ⊢
    clear hu0
    have R0 := Lib.hid (HR6.out.on HB0.out)
    have l0 : u0.cell? ⟨g, 2 + c, none⟩ = some (.slice pa P pc) := (HB0.out.cell (p := ⟨g, 2 + c, none⟩) hg6).trans p0
    have HA : Hid (∀ W6, W6 = u0.alloc (.cells #[.int .i64 ((N : Int) + 1)] 3) → Below w6.heap.size w6 W6 ∧ W6.cell? ⟨g, 2 + c, none⟩ = some (.slice pa P pc) ∧ W6.cell? ⟨w.heap.size, 0, none⟩ = some (.int .i64 c) ∧ Src Try.prog 1 41 (.slice (some ⟨u0.heap.size, 0, none⟩) 1 1) 1 [.int .i64 ((N : Int) + 1)] W6) := by
      have hz0_ := HZ0.out
      rintro W6 rfl
      have hb : Below u0.heap.size u0 (u0.alloc (.cells #[.int .i64 ((N : Int) + 1)] 3)) := (Below.refl _ _).alloc (Nat.le_refl _) _
      exact ⟨HB0.out.trans (hb.mono (by omega)), (hb.cell (p := ⟨g, 2 + c, none⟩) (show g < _ by omega)).trans l0, (hb.cell (p := ⟨w.heap.size, 0, none⟩) (show w.heap.size < _ by omega)).trans hHeld, int_src (heap_alloc_new u0 _)⟩
    refine wpAnyH_ready (rs := [9, 11]) (by kernel_rfl) (by simp) (AllReadyH.cons rfl (fun K hK => ?_) (AllReadyH.cons rfl (fun K hK => ?_) AllReadyH.nil))
    focus
      try simp only [Go.wp_at_succ, Go.wp_at_zero]
      go_simp
      refine hK.out _ _ hHeld (fun hHeld => ?_)
      clear hK K
      try simp only [Act.put, List.setIfInBounds_toArray, List.set_cons_zero, List.set_cons_succ]
      refine wpAnyH_ready (rs := [11]) (by kernel_rfl) (by simp) (AllReadyH.cons rfl (fun K hK => ?_) AllReadyH.nil)
      try simp only [Go.wp_at_succ, Go.wp_at_zero]
      go_simp
      refine hK.out _ _ (HA.out _ rfl).2.2.1 (fun hHeld => ?_)
      clear hK K
      try simp only [Act.put, List.setIfInBounds_toArray, List.set_cons_zero, List.set_cons_succ]
      obtain ⟨W6, hW6⟩ : ∃ W6, W6 = u0.alloc (.cells #[.int .i64 ((N : Int) + 1)] 3) := ⟨_, rfl⟩
      rw [← hW6] at hHeld ⊢
      obtain ⟨b6, l1, _, s1⟩ := HA.out W6 hW6
      have HB66 := Lib.hid b6
      have HSrc := Lib.hid s1
      clear hW6 b6 s1
      refine wpAnyH_ready (rs := [12]) (by kernel_rfl) (by simp) (AllReadyH.cons rfl (fun K hK => ?_) AllReadyH.nil)
      have HRaw := Lib.hid (HR6.out.on HB66.out)
      have hRowP : Hid (ORow W6 n 3 1 (.slice pa P pc) P (intCells (placesL L c))) := by have h := HRaw.out.pl c hc; rwa [← HPP.out, HPC.out] at h
      refine step_append_or rfl (.tmp 48) (.tmp 50) 41 41 rfl n 3 i2 (.int .i64 0) 1 8 Try.underlying41 hi3 hy0 hy1 hy2 rfl zb_int (.slice pa P pc) P (intCells (placesL L c)) rfl hRowP.out (.slice (some ⟨u0.heap.size, 0, none⟩) 1 1) 1 [.int .i64 ((N : Int) + 1)] rfl HSrc.out (by intro u hu x; rw [List.mem_singleton.1 hu]; simp) h63.out hby.out (Nat.le_trans hnw4 (Nat.le_trans hsz6 HB66.out.size)) ?_
      intro v3 w8 O8 G8 V8
      have O8' := O8
      rw [HPP.out] at O8'
      obtain ⟨R9, x1, y1⟩ := HRaw.out.setPl hc O8' (by rw [HPC.out]; exact G8) (by rw [HPC.out]; exact V8)
      rw [HPC.out] at x1
      have HO9 : Hid (Only (LB g d (.slice qa N qc) vr vp) w6 (w8.setCell ⟨g, 2 + c, none⟩ v3)) := ((Only.of HB66.out).then (grown_only G8) (fun x _ hx => .inr (.inr (.inr (.inr ⟨c, hc, by rw [HPC.out]; exact hx⟩))))).then (Only.set g (2 + c) w8 v3) (fun x _ hx => .inl hx)
      have HV9 : Hid (∀ x, v3.ownBlock = some x → LB g d (.slice qa N qc) vr vp x ∨ w4.heap.size ≤ x) := fun x hx => (V8 x hx).imp (fun h => .inr (.inr (.inr (.inr ⟨c, hc, by rw [HPC.out]; exact h⟩)))) (fun h => Nat.le_trans hsz6 (Nat.le_trans HB66.out.size h))
      have q8 : w8.cell? ⟨w.heap.size, 0, none⟩ = some (.int .i64 c) := (World.cell?_of_block (a := ⟨w.heap.size, 0, none⟩) ((G8.block _ (Nat.lt_of_lt_of_le hr6 HB66.out.size) (fun e => hnb (.inr (.inr (.inr (.inr ⟨c, hc, by rw [HPC.out]; exact e.symm⟩)))))))).trans hHeld
      have q9 : (w8.setCell ⟨g, 2 + c, none⟩ v3).cell? ⟨w.heap.size, 0, none⟩ = some (.int .i64 c) := ((Only.set g (2 + c) w8 v3).cell (p := ⟨w.heap.size, 0, none⟩) (Nat.lt_of_lt_of_le (Nat.lt_of_lt_of_le hr6 HB66.out.size) G8.size) hgr).trans q8
      obtain ⟨a3, c3, rfl⟩ := own_shape O8.own
      have HR9 := Lib.hid R9
      clear O8 O8' G8 V8 R9
      refine hK.out _ _ q8 (fun hHeld => ?_)
      clear hK K
      try simp only [Act.put]
      try simp only [List.setIfInBounds_toArray]
      try simp only [Act.put, List.setIfInBounds_toArray, List.set_cons_zero, List.set_cons_succ]
      first
        | (refine held_take 15 54 (v := ?_) rfl rfl (by kernel_rfl) (by kernel_rfl) (by kernel_rfl) (fun _ _ _ h => h) (by assumption) (by rfl) ?_ ?_; rotate_left; (focus (intro w hSw; (try dsimp only at hSw); go_simp <;> with_reducible rfl)))
        | refine held_pass 15 54 rfl rfl (by kernel_rfl) (by kernel_rfl) (by kernel_rfl) (fun _ _ _ h => h) (by assumption) (by rfl) ?_
      simp only [Act.put]
      refine wpAnyH_ready (rs := [16]) (by kernel_rfl) (by simp) (AllReadyH.cons rfl (fun K hK => ?_) AllReadyH.nil)
      try simp only [Go.wp_at_succ, Go.wp_at_zero]
      go_simp
      refine hK.out _ _ q9 (fun hHeld => ?_)
      clear hK K
      try simp only [Act.put]
      refine wpAnyH_done (by kernel_rfl) ?_ _
      clear q8 q9 hHeld HRaw hRowP l1
    rotate_left
    focus
      try simp only [Go.wp_at_succ, Go.wp_at_zero]
      go_simp
      refine hK.out _ _ (HA.out _ rfl).2.2.1 (fun hHeld => ?_)
      clear hK K
      try simp only [Act.put, List.setIfInBounds_toArray, List.set_cons_zero, List.set_cons_succ]
      obtain ⟨W6, hW6⟩ : ∃ W6, W6 = u0.alloc (.cells #[.int .i64 ((N : Int) + 1)] 3) := ⟨_, rfl⟩
      rw [← hW6] at hHeld ⊢
      obtain ⟨b6, l1, _, s1⟩ := HA.out W6 hW6
      have HB66 := Lib.hid b6
      have HSrc := Lib.hid s1
      clear hW6 b6 s1
      refine wpAnyH_ready (rs := [9]) (by kernel_rfl) (by simp) (AllReadyH.cons rfl (fun K hK => ?_) AllReadyH.nil)
      try simp only [Go.wp_at_succ, Go.wp_at_zero]
      go_simp
      refine hK.out _ _ hHeld (fun hHeld => ?_)
      clear hK K
      try simp only [Act.put, List.setIfInBounds_toArray, List.set_cons_zero, List.set_cons_succ]
      refine wpAnyH_ready (rs := [12]) (by kernel_rfl) (by simp) (AllReadyH.cons rfl (fun K hK => ?_) AllReadyH.nil)
      have HRaw := Lib.hid (HR6.out.on HB66.out)
      have hRowP : Hid (ORow W6 n 3 1 (.slice pa P pc) P (intCells (placesL L c))) := by have h := HRaw.out.pl c hc; rwa [← HPP.out, HPC.out] at h
      refine step_append_or rfl (.tmp 48) (.tmp 50) 41 41 rfl n 3 i2 (.int .i64 0) 1 8 Try.underlying41 hi3 hy0 hy1 hy2 rfl zb_int (.slice pa P pc) P (intCells (placesL L c)) rfl hRowP.out (.slice (some ⟨u0.heap.size, 0, none⟩) 1 1) 1 [.int .i64 ((N : Int) + 1)] rfl HSrc.out (by intro u hu x; rw [List.mem_singleton.1 hu]; simp) h63.out hby.out (Nat.le_trans hnw4 (Nat.le_trans hsz6 HB66.out.size)) ?_
      intro v3 w8 O8 G8 V8
      have O8' := O8
      rw [HPP.out] at O8'
      obtain ⟨R9, x1, y1⟩ := HRaw.out.setPl hc O8' (by rw [HPC.out]; exact G8) (by rw [HPC.out]; exact V8)
      rw [HPC.out] at x1
      have HO9 : Hid (Only (LB g d (.slice qa N qc) vr vp) w6 (w8.setCell ⟨g, 2 + c, none⟩ v3)) := ((Only.of HB66.out).then (grown_only G8) (fun x _ hx => .inr (.inr (.inr (.inr ⟨c, hc, by rw [HPC.out]; exact hx⟩))))).then (Only.set g (2 + c) w8 v3) (fun x _ hx => .inl hx)
      have HV9 : Hid (∀ x, v3.ownBlock = some x → LB g d (.slice qa N qc) vr vp x ∨ w4.heap.size ≤ x) := fun x hx => (V8 x hx).imp (fun h => .inr (.inr (.inr (.inr ⟨c, hc, by rw [HPC.out]; exact h⟩)))) (fun h => Nat.le_trans hsz6 (Nat.le_trans HB66.out.size h))
      have q8 : w8.cell? ⟨w.heap.size, 0, none⟩ = some (.int .i64 c) := (World.cell?_of_block (a := ⟨w.heap.size, 0, none⟩) ((G8.block _ (Nat.lt_of_lt_of_le hr6 HB66.out.size) (fun e => hnb (.inr (.inr (.inr (.inr ⟨c, hc, by rw [HPC.out]; exact e.symm⟩)))))))).trans hHeld
      have q9 : (w8.setCell ⟨g, 2 + c, none⟩ v3).cell? ⟨w.heap.size, 0, none⟩ = some (.int .i64 c) := ((Only.set g (2 + c) w8 v3).cell (p := ⟨w.heap.size, 0, none⟩) (Nat.lt_of_lt_of_le (Nat.lt_of_lt_of_le hr6 HB66.out.size) G8.size) hgr).trans q8
      obtain ⟨a3, c3, rfl⟩ := own_shape O8.own
      have HR9 := Lib.hid R9
      clear O8 O8' G8 V8 R9
      refine hK.out _ _ q8 (fun hHeld => ?_)
      clear hK K
      try simp only [Act.put]
      try simp only [List.setIfInBounds_toArray]
      try simp only [Act.put, List.setIfInBounds_toArray, List.set_cons_zero, List.set_cons_succ]
      first
        | (refine held_take 15 54 (v := ?_) rfl rfl (by kernel_rfl) (by kernel_rfl) (by kernel_rfl) (fun _ _ _ h => h) (by assumption) (by rfl) ?_ ?_; rotate_left; (focus (intro w hSw; (try dsimp only at hSw); go_simp <;> with_reducible rfl)))
        | refine held_pass 15 54 rfl rfl (by kernel_rfl) (by kernel_rfl) (by kernel_rfl) (fun _ _ _ h => h) (by assumption) (by rfl) ?_
      simp only [Act.put]
      refine wpAnyH_ready (rs := [16]) (by kernel_rfl) (by simp) (AllReadyH.cons rfl (fun K hK => ?_) AllReadyH.nil)
      try simp only [Go.wp_at_succ, Go.wp_at_zero]
      go_simp
      refine hK.out _ _ q9 (fun hHeld => ?_)
      clear hK K
      try simp only [Act.put]
      refine wpAnyH_done (by kernel_rfl) ?_ _
      clear q8 q9 hHeld HRaw hRowP l1
    all_goals
      clear h63 hby p0
      obtain ⟨w9, hw9⟩ : ∃ w9, w9 = w8.setCell ⟨g, 2 + c, none⟩ (.slice a3 (P + 1) c3) := ⟨_, rfl⟩
      rw [← hw9] at HR9 HO9 ⊢
      clear hw9 x1 y1
      have HRB9 := Lib.hid (HRB.out.only HO9.out hnb)
      have hsz9 : w6.heap.size ≤ w9.heap.size := HO9.out.size
      clear e0 e1 e2 e3 e4 e5
      obtain ⟨e0, e1, e2, e3, e4, e5⟩ := HRB9.out.cells
      have hg9 : g < w9.heap.size := by omega
      have j0' : (0 : Int) ≤ (i : Int) := by omega
      have j1' : (i : Int) < 32 := by omega
      go_wp2_with fail
      go_region_with (go_at_call 62; (with_reducible refine (HY.out _).mono ?_); rintro e w10 ⟨rfl, B10⟩; have HB10 : Hid (Below w9.heap.size w9 w10) := Below.trans ((Below.refl _ _).drew) (B10.mono (by simp)); have HR10 := Lib.hid (HR9.out.on HB10.out); obtain ⟨l0, l1⟩ := HR10.out.cl i hi)
      all_goals
        go_wp2
        go_returns
        have hr := HRV.out
        subst hr
        have hN := HNN.out
        subst hN
        have hR := HR10.out.setLast i hi ((L.length : Int) + 1)
        rw [last_put L ⟨c, sq, kd, i, mt, dt⟩ i rfl, places_put L ⟨c, sq, kd, i, mt, dt⟩ c rfl] at hR
        have hold := HOLD.out
        have hsz4 := HB4.out.size
        have ho : Only (LB g d (.slice qa L.length qc) vr vp) w w10 := (((Only.of HB4.out).trans HO6.out).trans HO9.out).trans (Only.of HB10.out)
        refine ⟨by first | rfl | simp, .slice a2 (L.length + 1) c2, updF vp c (.slice a3 (P + 1) c3), ⟨?_, by rw [List.length_append]; exact Nat.le_trans hold.kle (Nat.le_add_right _ _), fun k hk => (hold.rep k hk).app _ (Nat.lt_of_lt_of_le hk hold.kle), okL_app hold.ok HPU.out (by show seqL L (c : Int).toNat < sq; rw [Int.toNat_natCast]; exact HSQ.out), hold.quo⟩, ho.then (Only.set g (6 + i) w10 _) (fun x _ hx => .inl hx), fun x hx => ?_⟩
        · rw [take_app_le _ hold.kle]
          exact hR
        · rcases hx with hx | hx | hx | hx | ⟨c', hc', hx⟩
          · exact .inl (.inl hx)
          · exact .inl (.inr (.inl hx))
          · exact (HV6.out x hx).imp id (fun h => Nat.le_trans hsz4 h)
          · exact .inl (.inr (.inr (.inr (.inl hx))))
          · by_cases e : c' = c
            · subst e
              rw [updF_same] at hx
              exact (HV9.out x hx).imp id (fun h => Nat.le_trans hsz4 h)
            · rw [updF_other _ _ _ _ e] at hx
              exact .inl (.inr (.inr (.inr (.inr ⟨c', hc', hx⟩))))
end
end Go.Proofs.Ytenjjgghoacboaa
