/-
  A request comes back from its bytes; with a byte turned it is another one, or none (2.2, 2.4), as ItemBack says: for any request, any place, any turn. No condition.
-/
import Derived.Test.YtocedkdgmhegeaaItemBoth
namespace Go.Proofs.Ytocedkdgmhegeaa.ItemBack
open Go.ChangeShapes Go.WideShapes Go.ChangeAt Go.RowKit

theorem byt_set {w : World} {B b off cap k : Nat} {l : List UInt8} (h : Byt w B (.slice (some ⟨b, off, none⟩) l.length cap) l) (hk : k < l.length) (y : UInt8) :
    Byt (w.setCell ⟨b, off + k, none⟩ (.int .u8 y.toNat)) B (.slice (some ⟨b, off, none⟩) l.length cap) (l.set k y) := by
  obtain ⟨ao, cap', he, h1, h2, h3, h4⟩ := h
  simp only [Value.slice.injEq] at he
  obtain ⟨rfl, _, rfl⟩ := he
  obtain ⟨b', off', he, hb, hc⟩ := h4 (fun e => by rw [e] at hk; simp at hk)
  simp only [Option.some.injEq, Addr.mk.injEq, and_true] at he
  obtain ⟨rfl, rfl⟩ := he
  refine ⟨_, _, by rw [List.length_set], by rw [List.length_set]; exact h1, h2, fun e => by simp at e, fun _ => ⟨_, _, rfl, hb, fun j hj => ?_⟩⟩
  rw [List.length_set] at hj
  by_cases hjk : j = k
  · subst hjk
    rw [World.cell?_setCell_same w _ _ (hc j hj)]
    simp [List.getD, hj]
  · rw [World.cell?_setCell_other w _ _ _ (by simp), hc j hj]
    simp [List.getD, Ne.symm hjk]

theorem xor_u8 (a b : UInt8) : bits .xor .u8 (a.toNat : Int) (b.toNat : Int) = (((a ^^^ b).toNat : Nat) : Int) := by
  rw [u8_xor_nat _ _ a.toNat_lt b.toNat_lt, UInt8.toNat_xor]

theorem own_made1 (w : World) (o : Obj) : ((w.alloc o).alloc (.cells #[] 5)).ownsRow (w.heap.size + 1) 5 1 (.slice (some ⟨w.heap.size + 1, 0, none⟩) 0 0) 0 [] := by
  have h := World.ownsRow_made (base := w.heap.size + 1) (e := 5) (size := 1) (w.alloc o) #[] 0 (by simp) (Nat.zero_le _) rfl
  rwa [show (w.alloc o).heap.size = w.heap.size + 1 by simp] at h

theorem set_same (l : List UInt8) (k : Nat) (X : UInt8) (hk : k < l.length) (h : l.set k (l.getD k 0 ^^^ X) = l) : X = 0 := by
  have hg : l.getD k 0 = l[k] := by simp [List.getD, hk]
  rw [hg] at h
  have h1 : (l.set k (l[k] ^^^ X))[k]? = l[k]? := by rw [h]
  rw [List.getElem?_set_self hk, List.getElem?_eq_getElem hk] at h1
  have h2 := Option.some.inj h1
  have h3 : l[k] ^^^ l[k] = l[k] ^^^ (l[k] ^^^ X) := by rw [h2]
  rw [UInt8.xor_self, ← UInt8.xor_assoc, UInt8.xor_self, UInt8.zero_xor] at h3
  exact h3.symm

theorem run_neq_req (cl sq kd id mt cl' sq' kd' id' mt' : Int) (dt dt' : ByteArray) (w : World) :
    (binOp .neq 23 (.agg #[.int .i64 cl, .int .i64 sq, .int .i64 kd, .int .i64 id, .int .i64 mt, .string dt]) (.agg #[.int .i64 cl', .int .i64 sq', .int .i64 kd', .int .i64 id', .int .i64 mt', .string dt'])).run Try.prog w =
      .ok (.bool (!(cl == cl' && sq == sq' && kd == kd' && id == id' && mt == mt' && dt.toList == dt'.toList))) w := by
  rw [run_neq_struct, run_equalIn_agg _ _ _ _ _ (by kernel_rfl) (by kernel_rfl)]
  simp [Program.fieldsOf, Try.underlying23, Op.eqFields, go_sem]
  repeat' split
  all_goals simp_all

set_option maxHeartbeats 2000000 in
set_option maxRecDepth 100000 in
theorem many (cl sq kd id mt : Int) (dt : ByteArray) (p : Int) (x : Int) (w : World) (hd : dt.size ≤ 9223372036854775807) (hf : ¬ dt.size ≤ 300) :
    Calls Try.prog 4 #[.agg #[.int .i64 cl, .int .i64 sq, .int .i64 kd, .int .i64 id, .int .i64 mt, .string dt], .int .i64 p, .int .u8 x] w fun e w' => e = .returned (.bool true) ∧ Below w.heap.size w w' := by
  have HT := Lib.hid (fun u => told2_any u)
  have HF := Lib.hid (fun u => few_any cl sq kd id mt dt hd false (show _ = _ from (decide_eq_false hf).symm) u)
  clear hf
  go_enter Try.func4, Try.ntmps4
  go_wp2_with fail
  refine (HF.out _).mono ?_
  rintro e w1 ⟨rfl, B1⟩
  have D1 : Hid (ReqB w1 w.heap.size cl sq kd id mt dt) := (ReqB.fresh w _ _ _ _ _ _ 23).keep B1 (by simp)
  have C1 : Hid (Below w.heap.size w w1) := ((Below.refl _ w).alloc (Nat.le_refl _) _).trans (B1.mono (by simp))
  clear B1
  go_wp2_with fail
  refine (HT.out _).mono ?_
  rintro e w2 ⟨rfl, B2⟩
  have C2 : Hid (Below w.heap.size w w2) := C1.out.trans (B2.mono C1.out.size)
  clear B2
  go_wp2
  go_returns
  exact ⟨rfl, C2.out⟩

set_option maxHeartbeats 2000000 in
set_option maxRecDepth 100000 in
theorem wrong (cl sq kd id mt : Int) (dt : ByteArray) (p : Int) (x : Int) (w : World) (hd : dt.size ≤ 9223372036854775807) (hf : dt.size ≤ 300) (hm : ¬ ReqV.may ⟨cl, sq, kd, id, mt, dt⟩) :
    Calls Try.prog 4 #[.agg #[.int .i64 cl, .int .i64 sq, .int .i64 kd, .int .i64 id, .int .i64 mt, .string dt], .int .i64 p, .int .u8 x] w fun e w' => e = .returned (.bool true) ∧ Below w.heap.size w w' := by
  have HT := Lib.hid (fun u => told2_any u)
  have HF := Lib.hid (fun u => few_any cl sq kd id mt dt hd true (show _ = _ from (decide_eq_true hf).symm) u)
  have HP := Lib.hid (fun u => putreq_no cl sq kd id mt dt hd hm u)
  have HM := Lib.hid (fun u => mayreq_r cl sq kd id mt dt hd false (show _ = _ from (decide_eq_false hm).symm) u)
  clear hf hm
  go_enter Try.func4, Try.ntmps4
  go_wp2_with fail
  refine (HF.out _).mono ?_
  rintro e w1 ⟨rfl, B1⟩
  have D1 : Hid (ReqB w1 w.heap.size cl sq kd id mt dt) := (ReqB.fresh w _ _ _ _ _ _ 23).keep B1 (by simp)
  have C1 : Hid (Below w.heap.size w w1) := ((Below.refl _ w).alloc (Nat.le_refl _) _).trans (B1.mono (by simp))
  clear B1
  obtain ⟨c0, c1, c2, c3, c4, c5⟩ := D1.out.cells
  go_wp2_with fail
  refine (HP.out _).mono ?_
  rintro e w2 ⟨rfl, B2⟩
  have D2 : Hid (ReqB w2 w.heap.size cl sq kd id mt dt) := D1.out.keep B2 D1.out.lt
  have C2 : Hid (Below w.heap.size w w2) := C1.out.trans (B2.mono C1.out.size)
  clear B2 c0 c1 c2 c3 c4 c5
  go_wp2_with fail
  refine (HT.out _).mono ?_
  rintro e w3 ⟨rfl, B3⟩
  have D3 : Hid (ReqB w3 w.heap.size cl sq kd id mt dt) := D2.out.keep B3 D2.out.lt
  have C3 : Hid (Below w.heap.size w w3) := C2.out.trans (B3.mono C2.out.size)
  clear B3
  obtain ⟨c0, c1, c2, c3, c4, c5⟩ := D3.out.cells
  go_wp2_with fail
  refine (HM.out _).mono ?_
  rintro e w4 ⟨rfl, B4⟩
  have C4 : Hid (Below w.heap.size w w4) := C3.out.trans (B4.mono C3.out.size)
  clear B4
  go_wp2
  go_returns
  exact ⟨rfl, C4.out⟩

set_option maxHeartbeats 2000000 in
set_option maxRecDepth 100000 in
theorem good (cl sq kd id mt : Nat) (dt : ByteArray) (p : Int) (X : UInt8) (w : World) (hd : dt.size ≤ 9223372036854775807) (hf : dt.size ≤ 300) (hm : ReqV.may ⟨cl, sq, kd, id, mt, dt⟩) :
    Calls Try.prog 4 #[.agg #[.int .i64 cl, .int .i64 sq, .int .i64 kd, .int .i64 id, .int .i64 mt, .string dt], .int .i64 p, .int .u8 (X.toNat : Int)] w fun e w' => e = .returned (.bool true) ∧ Below w.heap.size w w' := by
  obtain ⟨q, hq⟩ : ∃ q : Got, q = ⟨cl, sq, kd, id, mt, dt.data.toList⟩ := ⟨_, rfl⟩
  have hqm : q.req.may := by rw [hq]; exact hm
  have hqb : q.bytes = reqBytes cl sq kd id mt dt.data.toList := by rw [hq]; rfl
  have hqv : q.val = .agg #[.int .i64 cl, .int .i64 sq, .int .i64 kd, .int .i64 id, .int .i64 mt, .string dt] := by rw [hq]; rfl
  obtain ⟨l, hl⟩ : ∃ l, l = q.bytes := ⟨_, rfl⟩
  have hlen : l.length ≤ 200 := by rw [hl]; exact req_len q hqm
  have hpos : 0 < l.length := by rw [hl, hqb]; have := Lib.uvarint_pos cl; simp only [reqBytes, List.length_append]; omega
  have HT := Lib.hid (fun u => told2_any u)
  have HF := Lib.hid (fun u => few_any cl sq kd id mt dt hd true (show _ = _ from (decide_eq_true hf).symm) u)
  have HP := Lib.hid (fun u => putreq_yes cl sq kd id mt dt hm u)
  rw [← hqb, ← hl] at HP
  have HG1 : Hid (∀ v u, Byt u u.heap.size v l → Calls Try.prog 17 #[v] u fun e w' => e = .returned (.tuple #[.agg #[.int .i64 cl, .int .i64 sq, .int .i64 kd, .int .i64 id, .int .i64 mt, .string dt], .int .i64 0]) ∧ Below u.heap.size u w') := by
    intro v u hb
    have h := good_put progB_wide q hqm
    rw [← hl] at h
    have := getreq_good v _ l u hb (Nat.le_refl _) (by omega) h.1
    rw [h.2, hqv] at this
    exact this
  obtain ⟨A, hA⟩ : ∃ A : Nat, IntKind.u64.wrap p = (A : Int) := ⟨(IntKind.u64.wrap p).toNat, by rw [IntKind.wrap_u64]; omega⟩
  obtain ⟨n, hn⟩ : ∃ n, n = l.length := ⟨_, rfl⟩
  have hn0 : 0 < n := by omega
  have hn2 : n ≤ 200 := by omega
  have hk : (A : Int) % (n : Int) = ((A % n : Nat) : Int) := (Int.natCast_emod A n).symm
  have hkl : A % n < n := Nat.mod_lt _ hn0
  generalize A % n = k at hk hkl
  have hkl' : k < l.length := by omega
  obtain ⟨y, hy⟩ : ∃ y, y = l.getD k 0 ^^^ X := ⟨_, rfl⟩
  obtain ⟨l2, hl2⟩ : ∃ l2, l2 = l.set k y := ⟨_, rfl⟩
  have hl2n : l2.length = n := by rw [hl2, List.length_set, hn]
  obtain ⟨g, err, hge, hgp, hgr⟩ := both_get2 l2 (by omega)
  have HGP := Lib.hid hgp
  have HGR := Lib.hid hgr
  have HCUT : Hid (∀ v u, Byt u u.heap.size v (l.take k) → Calls Try.prog 17 #[v] u fun e w' => e = .returned (.tuple #[.agg #[.int .i64 0, .int .i64 0, .int .i64 0, .int .i64 0, .int .i64 0, .string ⟨#[]⟩], .int .i64 2]) ∧ Below u.heap.size u w') := by
    intro v u hb
    refine getreq_bad v _ (l.take k) u hb (Nat.le_refl _) (by rw [List.length_take]; omega) ?_
    rw [hl]
    exact good_cut progB_wide q hqm k (by rw [← hl]; exact hkl')
  have HEND : Hid (X.toNat = 0 ∨ (0 < X.toNat ∧ err = 2) ∨ (0 < X.toNat ∧ err = 0 ∧ ∀ u, (binOp .neq 23 g.val (.agg #[.int .i64 cl, .int .i64 sq, .int .i64 kd, .int .i64 id, .int .i64 mt, .string dt])).run Try.prog u = .ok (.bool true) u)) := by
    by_cases hX : X.toNat = 0
    · exact .inl hX
    right
    rcases hge with ⟨h2, _⟩ | ⟨h0, hgm, hgb⟩
    · exact .inl ⟨by omega, h2⟩
    · refine .inr ⟨by omega, h0, fun u => ?_⟩
      have hne : g ≠ q := by
        intro e
        apply hX
        have : l.set k (l.getD k 0 ^^^ X) = l := by rw [← hy, ← hl2, hgb, e, ← hl]
        rw [set_same l k X hkl' this]
        rfl
      unfold Got.val
      rw [run_neq_req]
      congr 2
      rw [Bool.not_eq_true', Bool.eq_false_iff]
      intro h
      apply hne
      simp only [Bool.and_eq_true, beq_iff_eq] at h
      obtain ⟨⟨⟨⟨⟨h1, h2⟩, h3⟩, h4⟩, h5⟩, h6⟩ := h
      rw [hq]
      obtain ⟨g1, g2, g3, g4, g5, g6⟩ := g
      simp only at h1 h2 h3 h4 h5 h6
      have h6' : g6 = dt.data.toList := by
        have e1 : (ByteArray.mk g6.toArray).toList = g6 := ByteArray.toList_mk _
        rw [e1, ByteArray.toList_eq] at h6
        exact h6
      rw [h6']
      congr 1 <;> omega
  obtain ⟨i0, hi, hz0, hz1, hz2⟩ := info_parts info_u8
  have HN := Lib.hid hn
  have HL2 := Lib.hid hl2
  have HL2N := Lib.hid hl2n
  have HY := Lib.hid hy
  have hzn : ((n : Int) == 0) = false := by simp; omega
  rw [← hn] at HP
  obtain ⟨a1, h1⟩ : ∃ a : Int, a = g.cl := ⟨_, rfl⟩
  obtain ⟨a2, h2⟩ : ∃ a : Int, a = g.sq := ⟨_, rfl⟩
  obtain ⟨a3, h3⟩ : ∃ a : Int, a = g.kd := ⟨_, rfl⟩
  obtain ⟨a4, h4⟩ : ∃ a : Int, a = g.id := ⟨_, rfl⟩
  obtain ⟨a5, h5⟩ : ∃ a : Int, a = g.mt := ⟨_, rfl⟩
  obtain ⟨S, h6⟩ : ∃ a : ByteArray, a = ⟨g.s.toArray⟩ := ⟨_, rfl⟩
  have hgv : g.val = .agg #[.int .i64 a1, .int .i64 a2, .int .i64 a3, .int .i64 a4, .int .i64 a5, .string S] := by unfold Got.val; rw [h1, h2, h3, h4, h5, h6]
  rw [hgv] at HGP HGR HEND
  clear hgv h1 h2 h3 h4 h5 h6 hge hgp hgr hl2 hl2n hy hl hlen hpos hkl' hqm hqb hqv hq hm hf hn
  go_enter Try.func4, Try.ntmps4
  go_wp2_with fail
  refine (HF.out _).mono ?_
  rintro e w1 ⟨rfl, B1⟩
  have D1 : Hid (ReqB w1 w.heap.size cl sq kd id mt dt) := (ReqB.fresh w _ _ _ _ _ _ 23).keep B1 (by simp)
  have C1 : Hid (Below w.heap.size w w1) := ((Below.refl _ w).alloc (Nat.le_refl _) _).trans (B1.mono (by simp))
  clear B1
  obtain ⟨c0, c1, c2, c3, c4, c5⟩ := D1.out.cells
  go_wp2_with fail
  refine (HP.out _).mono ?_
  rintro e w2 ⟨vb, rfl, OB, B2⟩
  have D2 : Hid (ReqB w2 w.heap.size cl sq kd id mt dt) := D1.out.keep B2 D1.out.lt
  have C2 : Hid (Below w.heap.size w w2) := C1.out.trans (B2.mono C1.out.size)
  have YB2 := byt_own OB (Nat.le_refl _)
  have HYB2 := Lib.hid YB2
  have hrow : ∃ b off cap, vb = .slice (some ⟨b, off, none⟩) n cap := by
    rcases OB.2 with ⟨_, h0⟩ | ⟨r, cap, cur, rfl, _⟩
    · omega
    · exact ⟨_, _, _, rfl⟩
  obtain ⟨b, off, cap, rfl⟩ := hrow
  clear B2 OB YB2 c0 c1 c2 c3 c4 c5
  go_wp2_with fail
  refine (HG1.out _ _ HYB2.out).mono ?_
  rintro e w3 ⟨rfl, B3⟩
  have D3 : Hid (∀ o, ReqB (w3.alloc o) w.heap.size cl sq kd id mt dt) := fun o => (D2.out.keep B3 D2.out.lt).keep ((Below.refl _ _).alloc (Nat.le_refl _) _) (by have := D2.out.lt; have := B3.size; omega)
  have C3 : Hid (∀ o, Below w.heap.size w (w3.alloc o)) := fun o => (C2.out.trans (B3.mono C2.out.size)).alloc (by have := C2.out.size; have := B3.size; omega) _
  have YB3 : Hid (∀ o, Byt (w3.alloc o) w2.heap.size (.slice (some ⟨b, off, none⟩) n cap) l) := fun o => (HYB2.out.keep B3).keep (((Below.refl _ _).alloc (Nat.le_refl _) _).mono B3.size)
  have s3 := B3.size
  clear B3
  obtain ⟨c0, c1, c2, c3, c4, c5⟩ := (D3.out (.cells #[.int .i64 cl, .int .i64 sq, .int .i64 kd, .int .i64 id, .int .i64 mt, .string dt] 23)).cells
  have HS : Hid (∀ o, Src Try.prog 1 24 (.slice (some ⟨b, off, none⟩) n cap) n (Lib.byteCells l) ((w3.alloc o).alloc (.cells #[] 5))) := fun o => byt_src ((YB3.out o).keep (((Below.refl _ _).alloc (Nat.le_refl _) _).mono (by simp; omega)))
  obtain ⟨W3, hW3⟩ : ∃ W3, W3 = w3.alloc (.cells #[.int .i64 cl, .int .i64 sq, .int .i64 kd, .int .i64 id, .int .i64 mt, .string dt] 23) := ⟨_, rfl⟩
  have HW3 := Lib.hid hW3
  clear hW3
  go_wp2_with (at_builtin; refine wpList_append_own_src rfl (.tmp 53) (.tmp 54) 24 24 rfl (w3.heap.size + 1) 5 i0 (.int .u8 0) 1 1 Try.underlying24 hi hz0 hz1 hz2 rfl _ _ _ rfl (own_made1 w3 _) _ n (Lib.byteCells l) rfl (HS.out _) ?c3 ?c4 ?c5 ?_)
  case c3 => unfold maxLen; omega
  case c4 => omega
  case c5 => simp
  intro v' w4 hown hgrow
  have hB34 : Below (w3.heap.size + 1) (w3.alloc (.cells #[.int .i64 cl, .int .i64 sq, .int .i64 kd, .int .i64 id, .int .i64 mt, .string dt] 23)) w4 := ((Below.refl _ _).alloc (by simp) _).grown hgrow (by simp) (by intro k hk; simp [Value.ownBlock] at hk; omega)
  have s4 := hB34.size
  have hs34 : (w3.alloc (.cells #[.int .i64 cl, .int .i64 sq, .int .i64 kd, .int .i64 id, .int .i64 mt, .string dt] 23)).heap.size = w3.heap.size + 1 := by simp
  have s24 : w2.heap.size ≤ w4.heap.size := by omega
  have D4 : Hid (ReqB w4 w.heap.size cl sq kd id mt dt) := (D3.out _).keep hB34 (by have := D2.out.lt; omega)
  have C4 : Hid (Below w.heap.size w w4) := (C3.out _).trans (hB34.mono (by have := C2.out.size; omega))
  have YB4 : Hid (Byt w4 w2.heap.size (.slice (some ⟨b, off, none⟩) n cap) l) := (YB3.out _).keep (hB34.mono (by omega))
  have hown1 : w4.ownsRow (w3.heap.size + 1) 5 1 v' n (Lib.byteCells l) := by simpa using hown
  rcases hown1.2 with ⟨_, h0⟩ | ⟨g, cap', cur, rfl, hg, hh, hnc, hcm, hcs, htake⟩
  · omega
  have hbc := byt_own hown1 (Nat.le_refl _)
  have hc : w4.cell? ⟨g, k, none⟩ = some (.int .u8 (l.getD k 0).toNat) := by
    obtain ⟨ao, cp, he, _, _, _, h4⟩ := hbc
    simp only [Value.slice.injEq] at he
    obtain ⟨rfl, _, _⟩ := he
    obtain ⟨b', off', he, _, hc⟩ := h4 (fun e => by rw [e] at HN; have := HN.out; simp at this; omega)
    simp only [Option.some.injEq, Addr.mk.injEq, and_true] at he
    obtain ⟨rfl, rfl⟩ := he
    have := hc k (by rw [← HN.out]; exact hkl)
    simpa using this
  have hf := frozen_of_row w4 g k _ _ hh
  have hxo := xor_u8 (l.getD k 0) X
  rw [← HY.out] at hxo
  have hset : Byt (w4.setCell ⟨g, k, none⟩ (.int .u8 (y.toNat : Int))) w4.heap.size (.slice (some ⟨g, 0, none⟩) n cap') l2 := by
    rw [HN.out] at hbc ⊢
    have := byt_set hbc (by rw [← HN.out]; exact hkl) y
    rw [Nat.zero_add, ← HL2.out] at this
    exact this
  have HB2 : Hid (Below (w3.heap.size + 1) w4 (w4.setCell ⟨g, k, none⟩ (.int .u8 (y.toNat : Int)))) := (Below.refl _ _).setCell (p := ⟨g, k, none⟩) hg _
  have HSET := Lib.hid hset
  have hsz5 : (w4.setCell ⟨g, k, none⟩ (.int .u8 (y.toNat : Int))).heap.size = w4.heap.size := by simp [World.setCell]
  have HSZ5 := Lib.hid hsz5
  generalize l.getD k 0 = c at hc hxo
  have YC5 : Hid (∀ u, u = w4.setCell ⟨g, k, none⟩ (.int .u8 (y.toNat : Int)) → Byt u u.heap.size (.slice (some ⟨g, 0, none⟩) n cap') l2) := fun u hu => by subst hu; exact hset.mono (by rw [hsz5]; exact Nat.le_refl _)
  have DB5 : Hid (∀ u, u = w4.setCell ⟨g, k, none⟩ (.int .u8 (y.toNat : Int)) → ReqB u w.heap.size cl sq kd id mt dt ∧ Below w.heap.size w u ∧ Byt u w2.heap.size (.slice (some ⟨b, off, none⟩) n cap) l ∧ u.heap.size = w4.heap.size) := fun u hu => by
    subst hu
    exact ⟨D4.out.keep HB2.out (by have := D2.out.lt; omega), C4.out.trans (HB2.out.mono (by have := C2.out.size; omega)), YB4.out.keep (HB2.out.mono (by omega)), hsz5⟩
  clear hset hbc hown hown1 hh hnc hcm hcs htake HB2 HSET HSZ5 hB34 hgrow hs34 hsz5 c0 c1 c2 c3 c4 c5
  go_wp2_with fail
  refine (HGP.out _ _ (YC5.out _ rfl)).mono ?_
  rintro e w6 ⟨rfl, B6⟩
  have s6 := B6.size
  have E6 : Hid (w4.heap.size ≤ w6.heap.size) := by have := (DB5.out _ rfl).2.2.2; show _ ≤ _; omega
  have D6 : Hid (ReqB w6 w.heap.size cl sq kd id mt dt) := (DB5.out _ rfl).1.keep B6 (DB5.out _ rfl).1.lt
  have C6 : Hid (Below w.heap.size w w6) := (DB5.out _ rfl).2.1.trans (B6.mono (DB5.out _ rfl).2.1.size)
  have YC6 : Hid (Byt w6 w6.heap.size (.slice (some ⟨g, 0, none⟩) n cap') l2) := ((YC5.out _ rfl).keep B6).mono s6
  have YB6 : Hid (Byt w6 w2.heap.size (.slice (some ⟨b, off, none⟩) n cap) l) := (DB5.out _ rfl).2.2.1.keep (B6.mono (by have := (DB5.out _ rfl).2.2.2; omega))
  clear B6 s6 hc hf hxo YC5 DB5
  have KB : Hid (∀ o, (convert 24 9 (.slice (some ⟨g, 0, none⟩) n cap')).run Try.prog (w6.alloc o) = .ok (.string (txt l2)) (w6.alloc o)) := fun o => run_conv_byt (YC6.out.keep ((Below.refl _ _).alloc (Nat.le_refl _) _))
  have kb := KB.out (.cells #[.int .i64 a1, .int .i64 a2, .int .i64 a3, .int .i64 a4, .int .i64 a5, .string S] 23)
  go_wp2_with fail
  refine (HGR.out _).mono ?_
  rintro e w7 ⟨rfl, B7⟩
  have B67 := ((Below.refl _ w6).alloc (Nat.le_refl _) (.cells #[.int .i64 a1, .int .i64 a2, .int .i64 a3, .int .i64 a4, .int .i64 a5, .string S] 23)).trans (B7.mono (by simp))
  have Y7 : Hid (ReqB w7 w6.heap.size a1 a2 a3 a4 a5 S) := (ReqB.fresh w6 _ _ _ _ _ _ 23).keep B7 (by simp)
  have D7 : Hid (ReqB w7 w.heap.size cl sq kd id mt dt) := D6.out.keep B67 D6.out.lt
  have C7 : Hid (Below w.heap.size w w7) := C6.out.trans (B67.mono C6.out.size)
  have YB7 : Hid (Byt w7 w2.heap.size (.slice (some ⟨b, off, none⟩) n cap) l) := YB6.out.keep (B67.mono (by have := E6.out; omega))
  have s7 := B67.size
  clear B7 kb B67
  have YT7 : Hid (∀ o, Byt (w7.alloc o) (w7.alloc o).heap.size (.slice (some ⟨b, off, none⟩) k cap) (l.take k)) := fun o => by
    have h1 := YB7.out.keep (((Below.refl _ _).alloc (Nat.le_refl _) o).mono (by have := E6.out; omega))
    rw [HN.out] at h1
    exact (byt_take h1 (by rw [← HN.out]; omega)).mono (by have := E6.out; simp; omega)
  have hkc : k ≤ cap := by
    obtain ⟨ao, cp, he, h1, _⟩ := YB7.out
    simp only [Value.slice.injEq] at he
    obtain ⟨_, _, rfl⟩ := he
    have := HN.out
    omega
  go_wp2_with fail
  refine (HCUT.out _ _ (YT7.out _)).mono ?_
  rintro e w8 ⟨rfl, B8⟩
  have B78 := ((Below.refl _ w7).alloc (Nat.le_refl _) (.cells #[.int .i64 a1, .int .i64 a2, .int .i64 a3, .int .i64 a4, .int .i64 a5, .string S] 23)).trans (B8.mono (by simp))
  have Z8 : Hid (ReqB w8 w7.heap.size a1 a2 a3 a4 a5 S) := (ReqB.fresh w7 _ _ _ _ _ _ 23).keep B8 (by simp)
  have Y8 : Hid (ReqB w8 w6.heap.size a1 a2 a3 a4 a5 S) := Y7.out.keep B78 Y7.out.lt
  have D8 : Hid (ReqB w8 w.heap.size cl sq kd id mt dt) := D7.out.keep B78 D7.out.lt
  have C8 : Hid (Below w.heap.size w w8) := C7.out.trans (B78.mono C7.out.size)
  clear B8 B78
  go_wp2_with fail
  refine (HT.out _).mono ?_
  rintro e w9 ⟨rfl, B9⟩
  have B89 := ((Below.refl _ w8).alloc (Nat.le_refl _) (.cells #[.int .i64 0, .int .i64 0, .int .i64 0, .int .i64 0, .int .i64 0, .string ⟨#[]⟩] 23)).trans (B9.mono (by simp))
  have Z9 : Hid (ReqB w9 w7.heap.size a1 a2 a3 a4 a5 S) := Z8.out.keep B89 Z8.out.lt
  have Y9 : Hid (ReqB w9 w6.heap.size a1 a2 a3 a4 a5 S) := Y8.out.keep B89 Y8.out.lt
  have D9 : Hid (ReqB w9 w.heap.size cl sq kd id mt dt) := D8.out.keep B89 D8.out.lt
  have C9 : Hid (Below w.heap.size w w9) := C8.out.trans (B89.mono C8.out.size)
  clear B9 B89
  obtain ⟨c0, c1, c2, c3, c4, c5⟩ := Z9.out.cells
  obtain ⟨d0, d1, d2, d3, d4, d5⟩ := Y9.out.cells
  obtain ⟨f0, f1, f2, f3, f4, f5⟩ := D9.out.cells
  rcases HEND.out with hx | ⟨hx, he⟩ | ⟨hx, he, hne⟩
  · have hx2 : ((X.toNat : Int) == 0) = true := by simp [hx]
    go_wp2
    go_returns
    exact ⟨rfl, C9.out⟩
  · subst he
    have hx2 : ((X.toNat : Int) == 0) = false := by simp; omega
    go_wp2
    go_returns
    exact ⟨rfl, C9.out⟩
  · subst he
    have hx2 : ((X.toNat : Int) == 0) = false := by simp; omega
    go_wp2
    go_returns
    exact ⟨rfl, C9.out⟩
theorem walk (cl sq kd id mt : Int) (dt : ByteArray) (p x : Int) (w : World) (hd : dt.size ≤ maxLen) (_ : (Lit.int .i64 p).wf = true) (w2 : (Lit.int .u8 x).wf = true) :
    Calls Try.prog 4 #[.agg #[.int .i64 cl, .int .i64 sq, .int .i64 kd, .int .i64 id, .int .i64 mt, .string dt], .int .i64 p, .int .u8 x] w fun e w' => e = .returned (.bool true) ∧ Below w.heap.size w w' := by
  unfold maxLen at hd
  by_cases hf : dt.size ≤ 300
  case neg => exact many cl sq kd id mt dt p x w hd hf
  by_cases hm : ReqV.may ⟨cl, sq, kd, id, mt, dt⟩
  case neg => exact wrong cl sq kd id mt dt p x w hd hf hm
  obtain ⟨X, rfl⟩ : ∃ X : UInt8, x = (X.toNat : Int) := by
    have := bounds_u8 w2
    exact ⟨UInt8.ofNat x.toNat, by simp; omega⟩
  have hm' := hm
  simp only [ReqV.may] at hm'
  obtain ⟨a1, rfl⟩ : ∃ n : Nat, cl = n := ⟨cl.toNat, by omega⟩
  obtain ⟨a2, rfl⟩ : ∃ n : Nat, sq = n := ⟨sq.toNat, by omega⟩
  obtain ⟨a3, rfl⟩ : ∃ n : Nat, kd = n := ⟨kd.toNat, by omega⟩
  obtain ⟨a4, rfl⟩ : ∃ n : Nat, id = n := ⟨id.toNat, by omega⟩
  obtain ⟨a5, rfl⟩ : ∃ n : Nat, mt = n := ⟨mt.toNat, by omega⟩
  exact good a1 a2 a3 a4 a5 dt p X w hd hf hm

set_option maxRecDepth 100000 in
theorem lifted (os : Os) (started : os.Started) (H : Type) (enc : TypeId × Value → H) :
    ReturnsInHanded {} Try.checked os 4 .any (Rows.itemBackSpec.pre6 enc Try.prog Try.f4 Rows.itemBackRow.domain false) (Rows.itemBackSpec.post enc Try.prog Try.f4 false true false false) := by
  refine returnsInHanded_of_change (C := Try.checked) own started (by kernel_rfl) Try.func4
    (ChangeSpec.witness6 (enc := enc) (C := Try.checked) false ⟨#[], #[.agg #[.int .i64 0, .int .i64 0, .int .i64 0, .int .i64 0, .int .i64 0, .string ByteArray.empty], .int .i64 0, .int .u8 0], []⟩ 8 (by kernel_rfl) (by kernel_rfl) (by kernel_rfl) (by kernel_rfl)) ?_
  intro W base args ds gs before hval0 hW hcnd _
  have hval : ∀ (j : Nat) t v, Try.f4.params[j]? = some t → args[j]? = some v → Value.okWide Try.prog W .any base t v := hval0
  have hW' := hW
  obtain ⟨p, q, hA0, hV, rfl, hfz, hnd⟩ := hW
  have hA : DataW.TrodAll enc Try.prog W 0 (fun _ => true) true Try.f4.params.toList args.toList ds p := hA0
  rw [Try.params4] at hA hval
  obtain ⟨v0, vs0, d0, ds0, p0, q0, hargs, rfl, rfl, h0, r0⟩ := trodAll_cons hA
  obtain ⟨v1, vs1, d1, ds1, p1, q1, rfl, rfl, rfl, h1, r1⟩ := trodAll_cons r0
  obtain ⟨v2, vs2, d2, ds2, p2, q2, rfl, rfl, rfl, h2, r2⟩ := trodAll_cons r1
  obtain ⟨rfl, rfl, rfl⟩ := trodAll_nil r2
  obtain rfl : args = #[v0, v1, v2] := by cases args; simp_all
  obtain ⟨rfl, rfl⟩ := trodVars_none hV
  have k0 := h0
  have lt0 : ∀ x ∈ p0, x.block < W.heap.size := by obtain ⟨m, hm⟩ := k0; exact DataW.trod_lt m _ _ _ hm
  obtain ⟨⟨xa0, xb0, xc0, xd0, xe0, xf0⟩, w0, rfl⟩ := req_open (hval 0 23 v0 rfl rfl) h0
  obtain ⟨a1, rfl, rfl, rfl, w1⟩ := open_int Try.underlying3 (hval 1 3 v1 rfl rfl) h1
  obtain ⟨a2, rfl, rfl, rfl, w2⟩ := open_int Try.underlying5 (hval 2 5 v2 rfl rfl) h2
  clear hA0 hval0
  refine (walk xa0 xb0 xc0 xd0 xe0 xf0 a1 a2 W w0 w1 w2).mono fun e W' ⟨he, bel⟩ => ?_
  subst he
  exact ⟨_, rfl, _, _, _, [], _, [], hW', trodAll_mk1 (shut_bool Try.underlying4 _), (trodAll_cons_mk (Below.trod laidOut (by kernel_rfl) (of_decide_eq_true (by kernel_rfl)) k0 bel lt0) (trodAll_cons_mk (shut_int Try.underlying3 w1) (trodAll_cons_mk (shut_int Try.underlying5 w2) trodAll_mk0))), rfl, bel.frame _, fun h => by cases h⟩

theorem over : Rows.itemBackRow.holds Try.pinned (OpenSpec.ofChange Rows.itemBackSpec) :=
  OpenClaim.holds_of_wide 4 Try.f4 rfl rfl rfl rfl rfl rfl rfl ⟨rfl, rfl, rfl, rfl, rfl⟩ rfl rfl rfl rfl rfl (by kernel_rfl) Try.func4 (by kernel_rfl)
    (of_decide_eq_true (by kernel_rfl)) (by unfold Func.isWrapper; first | (rw [if_pos (by decide +kernel)]; kernel_rfl) | (rw [if_neg (by decide +kernel)]; exact ⟨rfl, rfl⟩))
    (fun os started H enc _ => lifted os started H enc)
end Go.Proofs.Ytocedkdgmhegeaa.ItemBack

namespace Go.Proofs.Ytocedkdgmhegeaa
theorem itemBack_holds : Rows.ItemBackSaid := ItemBack.over
#print axioms itemBack_holds
end Go.Proofs.Ytocedkdgmhegeaa
