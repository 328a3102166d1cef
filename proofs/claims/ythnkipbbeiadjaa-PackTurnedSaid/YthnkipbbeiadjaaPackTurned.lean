/-
  PROVED: casebooklaw1.PackTurned answers true and leaves its arguments as they were, for every slice of bytes, every number and every byte that can be read: the row's own reading and nothing else is assumed.
-/
import Derived.Test.YthnkipbbeiadjaaPackArgs
namespace Go.Proofs.Ythnkipbbeiadjaa.PackTurned
open Go.ChangeShapes Go.WideShapes Go.ChangeAt Go.RowKit
open Go.ChangeMaps (open_string shut_string)

theorem byt_set {w : World} {B b off cap k : Nat} {l : List UInt8} (h : Byt w B (.slice (some ⟨b, off, none⟩) l.length cap) l) (hk : k < l.length) (y : UInt8) :
    Byt (w.setCell ⟨b, off + k, none⟩ (.int .u8 y.toNat)) B (.slice (some ⟨b, off, none⟩) l.length cap) (l.set k y) := by
  obtain ⟨ao, cap', he, h1, h2, h3, h4⟩ := h
  simp only [Value.slice.injEq] at he
  obtain ⟨rfl, _, rfl⟩ := he
  obtain ⟨b', off', he, hb, hc⟩ := h4 (fun e => by rw [e] at hk; simp at hk)
  simp only [Option.some.injEq, Addr.mk.injEq, and_true] at he
  obtain ⟨rfl, rfl⟩ := he
  refine ⟨_, _, by rw [List.length_set], by rw [List.length_set]; exact h1, h2, fun e => by simp at e, fun _ => ⟨_, _, rfl, hb, fun j hj => ?_⟩⟩
  rw [List.length_set] at hj
  by_cases hjk : j = k
  · subst hjk
    rw [World.cell?_setCell_same w _ _ (hc j hj)]
    simp [List.getD, hj]
  · rw [World.cell?_setCell_other w _ _ _ (by simp), hc j hj]
    simp [List.getD, Ne.symm hjk]

theorem turned_eq (l : List UInt8) (k : Nat) (X : UInt8) (hk : k < l.length) : crcOf l = crcOf (l.set k (l.getD k 0 ^^^ X)) ↔ X = 0 := by
  have hg : l.getD k 0 = l[k] := by simp [List.getD, hk]
  rw [hg]
  constructor
  · intro h
    have e1 : l = l.take k ++ l[k] :: l.drop (k + 1) := by rw [← List.drop_eq_getElem_cons hk, List.take_append_drop]
    have e2 : l.set k (l[k] ^^^ X) = l.take k ++ (l[k] ^^^ X) :: l.drop (k + 1) := List.set_eq_take_append_cons_drop.trans (if_pos hk)
    rw [e2] at h
    have h' : crcOf (l.take k ++ l[k] :: l.drop (k + 1)) = crcOf (l.take k ++ (l[k] ^^^ X) :: l.drop (k + 1)) := by rw [← e1]; exact h
    have h2 := crcOf_turned _ _ _ _ h'
    have h3 : l[k] ^^^ l[k] = l[k] ^^^ (l[k] ^^^ X) := congrArg (l[k] ^^^ ·) h2
    rw [UInt8.xor_self, ← UInt8.xor_assoc, UInt8.xor_self, UInt8.zero_xor] at h3
    exact h3.symm
  · rintro rfl
    rw [UInt8.xor_zero, List.set_getElem_self]

theorem xor_u8 (a b : UInt8) : bits .xor .u8 (a.toNat : Int) (b.toNat : Int) = (((a ^^^ b).toNat : Nat) : Int) := by
  rw [u8_xor_nat _ _ a.toNat_lt b.toNat_lt, UInt8.toNat_xor]

set_option maxHeartbeats 2000000 in
theorem walk (v : Value) (l : List UInt8) (at0 x : Int) (w : World) (hby : Byt w w.heap.size v l) (_ : (Lit.int .i64 at0).wf = true) (w2 : (Lit.int .u8 x).wf = true) :
    Calls Try.prog 7 #[v, .int .i64 at0, .int .u8 x] w fun e w' => e = .returned (.bool true) ∧ Below w.heap.size w w' := by
  obtain ⟨X, hX⟩ : ∃ X : UInt8, x = (X.toNat : Int) := by
    have := bounds_u8 w2
    exact ⟨UInt8.ofNat x.toNat, by simp; omega⟩
  subst hX
  clear w2
  have hby' := Lib.hid hby
  obtain ⟨ao, cap, rfl, h1, h2, h3, h4⟩ := hby
  by_cases h : l.length = 0 ∨ 600 < l.length
  · unfold maxLen at h2
    clear hby' h3 h4
    have hd : (((l.length : Nat) : Int) == 0) = true ∨ (((l.length : Nat) : Int) == 0) = false ∧ 600 < l.length := by
      rcases h with h | h
      · left; simp [h]
      · right; exact ⟨by simp; intro e; rw [e] at h; simp at h, h⟩
    clear h
    rcases hd with h | ⟨h, h'⟩
    all_goals
      go_enter Try.func7, Try.ntmps7
      go_wp2_with (go_at_call 11; refine (told_any _).mono ?_; rintro e w' ⟨rfl, hb⟩)
      go_returns
      exact ⟨rfl, by assumption⟩
  · obtain ⟨i0, hi, hz0, hz1, hz2⟩ := info_parts info_u8
    obtain ⟨b, off, rfl, hbB, _⟩ := h4 (fun e => h (.inl (by rw [e]; rfl)))
    obtain ⟨A, hA⟩ : ∃ A : Nat, IntKind.u64.wrap at0 = (A : Int) := ⟨(IntKind.u64.wrap at0).toNat, by rw [IntKind.wrap_u64]; omega⟩
    obtain ⟨n, hn⟩ : ∃ n, n = l.length := ⟨_, rfl⟩
    rw [← hn] at h h1 hby' ⊢
    have hn0 : 0 < n := by omega
    have hn6 : n ≤ 600 := by omega
    have hz : ((n : Int) == 0) = false := by simp; omega
    have hk : (A : Int) % (n : Int) = ((A % n : Nat) : Int) := (Int.natCast_emod A n).symm
    have hkl : A % n < n := Nat.mod_lt _ hn0
    generalize A % n = k at hk hkl
    have HN := Lib.hid hn
    have HS := Lib.hid (byt_src (hby'.out.keep ((Below.refl _ _).alloc (Nat.le_refl _) (.cells #[] 5))))
    clear h h1 h2 h3 h4 hn
    go_enter Try.func7, Try.ntmps7
    go_wp2_with (at_builtin; refine wpList_append_own_src rfl (.tmp 18) (.tmp 19) 24 24 rfl w.heap.size 5 i0 (.int .u8 0) 1 1 Try.underlying24 hi hz0 hz1 hz2 rfl _ _ _ rfl (World.ownsRow_made w #[] 0 (Nat.le_refl _) (Nat.zero_le _) rfl) _ n (Lib.byteCells l) rfl HS.out ?c3 ?c4 ?c5 ?_)
    case c3 => unfold maxLen; omega
    case c4 => omega
    case c5 => simp
    intro v' w1 hown hgrow
    have hB1 := ((Below.refl _ w).alloc (Nat.le_refl _) _).grown hgrow (by simp) (by intro k hk; simp [Value.ownBlock] at hk; omega)
    have HB1 := Lib.hid hB1
    have hown1 : w1.ownsRow w.heap.size 5 1 v' n (Lib.byteCells l) := by simpa using hown
    rcases hown1.2 with ⟨_, h0⟩ | ⟨g, cap', cur, rfl, hg, hh, hnc, hcm, hcs, htake⟩
    · omega
    · have hbc := byt_own hown1 (Nat.le_refl _)
      have hc : w1.cell? ⟨g, k, none⟩ = some (.int .u8 (l.getD k 0).toNat) := by
        obtain ⟨ao, cp, he, _, _, _, h4⟩ := hbc
        simp only [Value.slice.injEq] at he
        obtain ⟨rfl, _, _⟩ := he
        obtain ⟨b', off', he, _, hc⟩ := h4 (fun e => by rw [e] at HN; have := HN.out; simp at this; omega)
        simp only [Option.some.injEq, Addr.mk.injEq, and_true] at he
        obtain ⟨rfl, rfl⟩ := he
        have := hc k (by rw [← HN.out]; exact hkl)
        simpa using this
      have hf := frozen_of_row w1 g k _ _ hh
      have hxo := xor_u8 (l.getD k 0) X
      have hset : Byt (w1.setCell ⟨g, k, none⟩ (.int .u8 ((l.getD k 0 ^^^ X).toNat : Int))) w1.heap.size (.slice (some ⟨g, 0, none⟩) n cap') (l.set k (l.getD k 0 ^^^ X)) := by
        rw [HN.out] at hbc ⊢
        have := byt_set hbc (by rw [← HN.out]; exact hkl) (l.getD k 0 ^^^ X)
        rw [Nat.zero_add] at this
        exact this
      have HB2 : Hid (Below w.heap.size w (w1.setCell ⟨g, k, none⟩ (.int .u8 ((l.getD k 0 ^^^ X).toNat : Int)))) := HB1.out.setCell (p := ⟨g, k, none⟩) hg _
      have HSET := Lib.hid hset
      have HT := Lib.hid (turned_eq l k X (by rw [← HN.out]; exact hkl))
      generalize l.getD k 0 ^^^ X = y at hxo HB2 HSET HT
      generalize l.getD k 0 = c at hc hxo
      have hll : (l.set k y).length = n := by rw [List.length_set]; exact HN.out.symm
      have HLL := Lib.hid hll
      generalize l.set k y = l2 at HSET HT HLL
      clear hll hset hbc hown hown1 hh hnc hcm hcs htake
      have hs1 : w.heap.size ≤ w1.heap.size := HB1.out.size
      have hsz : (w1.setCell ⟨g, k, none⟩ (.int .u8 (y.toNat : Int))).heap.size = w1.heap.size := by simp [World.setCell]
      have HSZ := Lib.hid hsz
      clear hsz
      obtain ⟨R1, hR1⟩ : ∃ R, R = crcOf l := ⟨_, rfl⟩
      obtain ⟨R2, hR2⟩ : ∃ R, R = crcOf l2 := ⟨_, rfl⟩
      rw [← hR1, ← hR2] at HT
      have hcmp : ((R1 : Int) == (R2 : Int)) = ((X.toNat : Int) == 0) := by
        have h := HT.out
        rw [Bool.eq_iff_iff]
        simp only [beq_iff_eq]
        have h0 : ((X.toNat : Int) = 0) ↔ X = 0 := by
          rw [← UInt8.toNat_inj]; simp
        rw [h0, ← h]
        omega
      have HCMP := Lib.hid hcmp
      have C1 : ∀ w5, Below w.heap.size w w5 → Calls Try.prog 28 #[.slice (some ⟨b, off, none⟩) n cap] w5 fun e w' => e = .returned (.int .u32 R1) ∧ Below w5.heap.size w5 w' := by
        intro w5 h5
        rw [hR1]
        exact crc_any _ _ l w5 (hby'.out.keep h5) h5.size (by rw [← HN.out]; omega)
      have HC1 := Lib.hid C1
      have C2 : ∀ w5, Below w1.heap.size (w1.setCell ⟨g, k, none⟩ (.int .u8 (y.toNat : Int))) w5 → Calls Try.prog 28 #[.slice (some ⟨g, 0, none⟩) n cap'] w5 fun e w' => e = .returned (.int .u32 R2) ∧ Below w5.heap.size w5 w' := by
        intro w5 h5
        rw [hR2]
        exact crc_any _ _ l2 w5 (HSET.out.keep h5) (by have := h5.size; rw [HSZ.out] at this; exact this) (by rw [HLL.out]; omega)
      have HC2 := Lib.hid C2
      clear hR1 hR2 C1 C2 hcmp HT
      go_wp2_with fail
      refine (told_any _).mono ?_
      rintro e w3 ⟨rfl, hb3⟩
      rw [HSZ.out] at hb3
      have HB3 := Lib.hid hb3
      have hs3 : w1.heap.size ≤ w3.heap.size := by have := hb3.size; rw [HSZ.out] at this; exact this
      clear hb3
      go_wp2_with fail
      refine (HC1.out _ (HB2.out.trans (HB3.out.mono hs1))).mono ?_
      rintro e w4 ⟨rfl, hb4⟩
      have HB4 := Lib.hid (HB3.out.trans (hb4.mono hs3))
      clear hb4
      go_wp2_with fail
      refine (HC2.out _ HB4.out).mono ?_
      rintro e w5 ⟨rfl, hb5⟩
      have hs4 : w1.heap.size ≤ w4.heap.size := by have := HB4.out.size; rw [HSZ.out] at this; exact this
      have HB5 := Lib.hid (HB4.out.trans (hb5.mono hs4))
      clear hb5
      go_wp2
      go_returns
      refine ⟨ret_bool ?_, HB2.out.trans (HB5.out.mono hs1)⟩
      rw [HCMP.out]; exact beq_self_eq_true _

set_option maxRecDepth 100000 in
theorem lifted (os : Os) (started : os.Started) (H : Type) (enc : TypeId × Value → H) :
    ReturnsInHanded {} Try.checked os 7 .any (Rows.packTurnedSpec.pre6 enc Try.prog Try.f7 Rows.packTurnedRow.domain false) (Rows.packTurnedSpec.post enc Try.prog Try.f7 false true false false) := by
  refine returnsInHanded_of_change (C := Try.checked) own started (by kernel_rfl) Try.func7
    (ChangeSpec.witness6 (enc := enc) (C := Try.checked) false ⟨#[], #[.slice none 0 0, .int .i64 0, .int .u8 0], []⟩ 8 (by kernel_rfl) (by kernel_rfl) (by kernel_rfl) (by kernel_rfl)) ?_
  intro W base args ds gs before hval0 hW hcnd _
  have hval : ∀ (j : Nat) t v, Try.f7.params[j]? = some t → args[j]? = some v → Value.okWide Try.prog W .any base t v := hval0
  have hW' := hW
  obtain ⟨p, q, hA0, hV, rfl, hfz, hnd⟩ := hW
  have hA : DataW.TrodAll enc Try.prog W 0 (fun _ => true) true Try.f7.params.toList args.toList ds p := hA0
  rw [Try.params7] at hA hval
  obtain ⟨v0, vs0, d0, ds0, p0, q0, hargs, rfl, rfl, h0, r0⟩ := trodAll_cons hA
  obtain ⟨v1, vs1, d1, ds1, p1, q1, rfl, rfl, rfl, h1, r1⟩ := trodAll_cons r0
  obtain ⟨v2, vs2, d2, ds2, p2, q2, rfl, rfl, rfl, h2, r2⟩ := trodAll_cons r1
  obtain ⟨rfl, rfl, rfl⟩ := trodAll_nil r2
  obtain rfl : args = #[v0, v1, v2] := by cases args; simp_all
  obtain ⟨rfl, rfl⟩ := trodVars_none hV
  obtain ⟨a0, len0, cap0, rfl⟩ := okWide_slice Try.underlying24 (hval 0 24 v0 rfl rfl)
  have k0 := h0
  have lt0 : ∀ x ∈ p0, x.block < W.heap.size := by obtain ⟨m, hm⟩ := k0; exact DataW.trod_lt m _ _ _ hm
  obtain ⟨l0, w0⟩ : ∃ l, Byt W W.heap.size (.slice a0 len0 cap0) l := by
    obtain ⟨fuel, hf⟩ := h0
    rcases open_ints Try.underlying24 Try.underlying5 (by kernel_rfl) hf with ⟨hcs, _⟩ | ⟨x, l, c, zs, hcs, _, hl, hm, hz, _, hcell, hwz⟩
    · simp [Value.cells] at hcs
      obtain ⟨rfl, rfl, rfl⟩ := hcs
      exact ⟨[], Byt.none _ _⟩
    · simp [Value.cells] at hcs
      obtain ⟨rfl, rfl, rfl⟩ := hcs
      obtain ⟨l, _, hb⟩ := byt_row hl hm (by simpa using hz) hcell hwz
      exact ⟨l, hb⟩
  obtain ⟨a1, rfl, rfl, rfl, w1⟩ := open_int Try.underlying3 (hval 1 3 v1 rfl rfl) h1
  obtain ⟨a2, rfl, rfl, rfl, w2⟩ := open_int Try.underlying5 (hval 2 5 v2 rfl rfl) h2
  clear hA0 hval0
  refine (walk (.slice a0 len0 cap0) l0 a1 a2 W w0 w1 w2).mono fun e W' ⟨he, bel⟩ => ?_
  subst he
  exact ⟨_, rfl, _, _, _, [], _, [], hW', trodAll_mk1 (shut_bool Try.underlying4 _), (trodAll_cons_mk (Below.trod laidOut (by kernel_rfl) (of_decide_eq_true (by kernel_rfl)) k0 bel lt0) (trodAll_cons_mk (shut_int Try.underlying3 w1) (trodAll_cons_mk (shut_int Try.underlying5 w2) trodAll_mk0))), rfl, bel.frame _, fun h => by cases h⟩

theorem over : Rows.packTurnedRow.holds Try.pinned (OpenSpec.ofChange Rows.packTurnedSpec) :=
  OpenClaim.holds_of_wide 7 Try.f7 rfl rfl rfl rfl rfl rfl rfl ⟨rfl, rfl, rfl, rfl, rfl⟩ rfl rfl rfl rfl rfl (by kernel_rfl) Try.func7 (by kernel_rfl)
    (of_decide_eq_true (by kernel_rfl)) (by unfold Func.isWrapper; first | (rw [if_pos (by decide +kernel)]; kernel_rfl) | (rw [if_neg (by decide +kernel)]; exact ⟨rfl, rfl⟩))
    (fun os started H enc _ => lifted os started H enc)
end Go.Proofs.Ythnkipbbeiadjaa.PackTurned

namespace Go.Proofs.Ythnkipbbeiadjaa
theorem packTurned_holds : Rows.PackTurnedSaid := PackTurned.over
#print axioms packTurned_holds
end Go.Proofs.Ythnkipbbeiadjaa
