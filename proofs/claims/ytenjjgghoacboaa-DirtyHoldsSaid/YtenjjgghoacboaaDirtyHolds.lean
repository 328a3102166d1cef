/-
  PROVED: casebooklaw19.DirtyHolds answers true and leaves its arguments as they were, for any requests and any three ints: the row's own reading and nothing else is assumed.
-/
import Derived.Test.YtenjjgghoacboaaDtT
import Derived.Test.YtenjjgghoacboaaDiskV
namespace Go.Proofs.Ytenjjgghoacboaa.DirtyHolds
open Go.ChangeShapes Go.WideShapes Go.ChangeAt Go.RowKit

/-- How LNew ends. -/
def NewX (w : World) (e : Ending) (w' : World) : Prop := ∃ g S, e = .returned (.tuple #[.pointer (some ⟨g, 0, none⟩), .int .i64 0]) ∧ Hid (GLo w.heap.size w g 6 [] 0 S w')
theorem left_in (z q : Int) (hq : 0 < q) (hq2 : q ≤ 1000) : ∃ t : Nat, (t : Int) < q ∧ wrap64 ((IntKind.u64.wrap z).tmod q) = (t : Int) := by
  have h0 : 0 ≤ IntKind.u64.wrap z := by rw [IntKind.wrap_u64]; omega
  have h1 := Int.tmod_nonneg q h0
  have h2 := Int.tmod_lt_of_pos (IntKind.u64.wrap z) hq
  refine ⟨((IntKind.u64.wrap z).tmod q).toNat, by omega, ?_⟩
  rw [IntWalk.wrap64_in _ (by omega)]
  omega
theorem last_ge {L : List ReqV} {k : Nat} : ∀ m, m ≤ L.length → ∀ j, j < m → (atL L j).id = (k : Int) → (j : Int) + 1 ≤ lastL (L.take m) k := by
  intro m
  induction m with
  | zero => intro _ j hj; omega
  | succ m ih =>
    intro hm j hj he
    have hlt : m < L.length := by omega
    rw [take_next hlt, lastL_app, List.length_take, Nat.min_eq_left (by omega)]
    split
    · omega
    · rename_i hne
      by_cases e : j = m
      · subst e; exact absurd he hne
      · exact ih (by omega) j (by omega) he
theorem res_same (q : Int) {L : List ReqV} {k : Nat} {c : Nat} (h : lastL L k ≤ (c : Int)) : ∀ d, c + d ≤ L.length → (stoOf q (L.take (c + d))).res k = (stoOf q (L.take c)).res k := by
  intro d
  induction d with
  | zero => intro _; rfl
  | succ d ih =>
    intro hd
    have hlt : c + d < L.length := by omega
    rw [← Nat.add_assoc, take_next hlt, stoOf_app, ← ih (by omega)]
    have hne : ¬ (atL L (c + d)).id = (k : Int) := fun he => by
      have := last_ge L.length (Nat.le_refl _) (c + d) hlt he
      rw [List.take_length] at this
      omega
    unfold putA
    split
    · rfl
    · rename_i hp
      split
      · rfl
      · have hp' := Classical.not_not.1 hp
        have hm := hp'.1
        unfold ReqV.may at hm
        show (putV _ _ _ _ _ _ _).res k = _
        unfold putV
        simp only
        have : ¬ k = (atL L (c + d)).id.toNat := by omega
        simp [updF, this]
theorem Ints.only {w w' : World} {T : Nat → Prop} {ao : Option Addr} {m cap : Nat} {l : List Int} (h : Ints w w.heap.size (.slice ao m cap) l) (ho : Only T w w') (hne : l ≠ [] → ∀ a, ao = some a → ¬ T a.block) : Ints w' w'.heap.size (.slice ao m cap) l := by
  obtain ⟨ao', cap', he, h1, h2, h3, h4⟩ := h
  simp only [Value.slice.injEq] at he
  obtain ⟨rfl, rfl, rfl⟩ := he
  refine ⟨ao, cap, rfl, h1, h2, h3, fun hl => ?_⟩
  obtain ⟨c, off, rfl, hcB, hc⟩ := h4 hl
  exact ⟨c, off, rfl, Nat.lt_of_lt_of_le hcB ho.size, fun j hj => (World.cell?_of_block (a := ⟨c, off + j, Option.none⟩) (ho.block c hcB (hne hl _ rfl))).trans (hc j hj)⟩
/-- The log, the question's block, what was told. -/
structure DH (n : Nat) (w : World) (g : Nat) (L : List ReqV) (c : Nat) (S : Nat → Prop) (b k p : Nat) (cd vr : Int) (d : ByteArray) (ao : Option Addr) (m cap : Nat) (l : List Int) (u : World) : Prop where
  lo : GLo n w g 6 L c S u
  rb : ReqB u b 0 1 6 k 0 ⟨#[]⟩
  rp : RepB u p cd vr d (.slice ao m cap)
  iv : Ints u u.heap.size (.slice ao m cap) l
  nb : ¬ S b
  np : ¬ S p
  nv : l ≠ [] → ∀ a, ao = some a → ¬ S a.block
section
variable {n : Nat} {w u u' : World} {g : Nat} {L : List ReqV} {c c' : Nat} {S S' : Nat → Prop} {b k p : Nat} {cd vr : Int} {d : ByteArray} {ao : Option Addr} {m cap : Nat} {l : List Int}
theorem DH.on (h : DH n w g L c S b k p cd vr d ao m cap l u) (hb : Below u.heap.size u u') : DH n w g L c S b k p cd vr d ao m cap l u' :=
  ⟨h.lo.on hb, h.rb.keep hb h.rb.lt, h.rp.keep hb h.rp.lt, (h.iv.keep hb).mono hb.size, h.nb, h.np, h.nv⟩
theorem RepB.only {T : Nat → Prop} {v : Value} (h : RepB u p cd vr d v) (ho : Only T u u') (hn : ¬ T p) : RepB u' p cd vr d v := by
  have hl := h.lt
  obtain ⟨e, h⟩ := h
  exact ⟨e, (ho.block p hl hn).trans h⟩
theorem DH.turn (h : DH n w g L c S b k p cd vr d ao m cap l u) (t : LTurn n w g 6 L c' S S' u u') : DH n w g L c' S' b k p cd vr d ao m cap l u' :=
  ⟨t.lo, h.rb.only t.only h.nb, RepB.only h.rp t.only h.np, Ints.only h.iv t.only h.nv, fun hs => (t.more b hs).elim h.nb (fun hx => by have := h.rb.lt; omega), fun hs => (t.more p hs).elim h.np (fun hx => by have := h.rp.lt; omega), fun hl a ha hs => (t.more _ hs).elim (h.nv hl a ha) (fun hx => by have := h.iv.blk hl a ha; omega)⟩
end

set_option maxRecDepth 100000 in
set_option maxHeartbeats 3000000 in
theorem run (ao : Option Addr) (n cap : Nat) (L0 : List ReqV) (cm id_ mo : Int) (w : World) (hn : L0.length = n) (hs : ∀ q ∈ L0, q.data.size ≤ maxLen) (HL : Hid (ReqsAt w ao L0)) :
    Calls Try.prog 5 #[.slice ao n cap, .int .i64 cm, .int .i64 id_, .int .i64 mo] w fun e w' => e = .returned (.bool true) ∧ Below w.heap.size w w' := by
  have H1 : Hid (Calls Try.prog 11 #[.int .i64 6] w (NewX w)) := (glo_new 6 (by decide) (by decide) (Below.refl _ w) (Nat.le_refl _)).mono fun _ _ ⟨g, S, he, h⟩ => ⟨g, S, he, h.out.1⟩
  have HT := Lib.hid (fun u => told19_any u)
  have HN := Lib.hid hn
  have HS := Lib.hid hs
  clear hn hs
  go_enter Try.func5, Try.ntmps5
  go_wp2_with fail
  refine H1.out.mono ?_
  rintro e w1 ⟨g, S0, rfl, G0⟩
  by_cases h30 : 40 < n
  · go_wp2_with fail
    refine (HT.out _).mono ?_
    rintro e w2 ⟨rfl, B2⟩
    have C2 := Lib.hid (G0.out.on B2).bel
    clear B2
    go_wp2
    go_returns
    exact ⟨rfl, C2.out⟩
  have h31 : n ≤ 40 := by omega
  clear h30
  go_wp2
  go_loopw [11] (fun vi wr => ∃ (k : Nat) (L : List ReqV) (S : Nat → Prop), k ≤ n ∧ vi = .int .i64 k ∧ L.length ≤ k ∧ Hid (GLo w.heap.size w g 6 L 0 S wr)) (fun vi _ => n - (intOf vi).toNat)
  case atStart => exact ⟨0, [], S0, by omega, rfl, Nat.le_refl _, G0⟩
  case round =>
    obtain ⟨k, L, S, hk, rfl, hLk, HG⟩ := hrel
    clear G0 H1
    by_cases hlt : k < n
    · have hkL : k < L0.length := by rw [HN.out]; exact hlt
      obtain ⟨b, off, rfl, hb, hc⟩ := HL.out k hkL
      have FX := Lib.hid hc
      have hsz := HS.out _ (List.getElem_mem hkL)
      clear hc
      generalize L0[k] = q at FX hsz
      obtain ⟨L', p, x, hV⟩ : ∃ L' p x, lputV L q = (L', p, x) := ⟨_, _, _, rfl⟩
      have hle := lputV_len L q
      rw [hV] at hle
      obtain ⟨hl1, hl2⟩ := hle
      simp only at hl1 hl2
      have i0 : (0 : Int) ≤ (k : Int) := by omega
      have i1 : (k : Int) < (n : Int) := by omega
      have HPut : Hid (∀ u, GLo w.heap.size w g 6 L 0 S u → Calls Try.prog 19 #[.pointer (some ⟨g, 0, none⟩), .agg #[.int .i64 q.client, .int .i64 q.seq, .int .i64 q.kind, .int .i64 q.id, .int .i64 q.mtch, .string q.data]] u (PutLR w.heap.size w g 6 L' p x 0 S u)) :=
        fun u hu => hu.put (by omega) q.client q.seq q.kind q.id q.mtch q.data hsz L' p x hV
      obtain ⟨f0, f1, f2, f3, f4, f5⟩ := FX.out wr HG.out.bel
      obtain ⟨cl, sq, kd, id, mt, dt⟩ := q
      simp only at HPut hsz f0 f1 f2 f3 f4 f5
      unfold maxLen at hsz
      clear hV hkL
      by_cases h200 : 100 < dt.size
      · go_wp2_with fail
        refine (HT.out _).mono ?_
        rintro e w2 ⟨rfl, B2⟩
        have C2 := Lib.hid (HG.out.on B2).bel
        clear B2
        go_wp2
        go_returns
        exact ⟨rfl, C2.out⟩
      have h201 : dt.size ≤ 100 := by omega
      clear h200
      go_wp2_with fail
      refine (HPut.out _ HG.out).mono ?_
      rintro e w2 ⟨rfl, S2, T2⟩
      have G2 := Lib.hid T2.lo
      clear T2
      go_wp2
      go_roundw
      case rel => exact ⟨k + 1, L', S2, by omega, by go_num, by omega, G2⟩
      case measure => simp [intOf]; omega
    · obtain rfl : k = n := by omega
      obtain ⟨N, hNL⟩ : ∃ N, N = L.length := ⟨_, rfl⟩
      have hN30 : N ≤ 40 := by omega
      have HNL := Lib.hid hNL
      have hL1 : L.length ≤ 100000 := by omega
      clear HL HS HN hLk
      obtain ⟨c, hc, ec⟩ := left_in cm ((N : Int) + 1) (by omega) (by omega)
      obtain ⟨k0, hk0, ek⟩ := left_in id_ 32 (by omega) (by omega)
      have EC := Lib.hid ec
      have EK := Lib.hid ek
      have hcN : c ≤ N := by omega
      have hk32 : k0 < 32 := by omega
      have HLen : Hid (∀ c S u, GLo w.heap.size w g 6 L c S u → Calls Try.prog 15 #[.pointer (some ⟨g, 0, none⟩)] u fun e w' => e = .returned (.int .i64 N) ∧ u = w') := fun c S u hu => by rw [hNL]; exact hu.len
      have HCm : Hid (Calls Try.prog 21 #[.pointer (some ⟨g, 0, none⟩), .int .i64 (c : Int)] wr (ComR w.heap.size w g 6 L c S wr)) := HG.out.comYes hL1 c (by omega) (by omega)
      clear hNL ec ek hc hk0
      go_wp2_with fail
      refine (HLen.out _ _ _ HG.out).mono ?_
      rintro e w2 ⟨rfl, rfl⟩
      go_wp2_with fail
      rw [EC.out]
      refine HCm.out.mono ?_
      rintro e w2 ⟨rfl, S2, T2⟩
      have G2 := Lib.hid T2.lo
      clear T2 HG HCm
      obtain ⟨b, hb⟩ : ∃ b, b = w2.heap.size := ⟨_, rfl⟩
      obtain ⟨w3, hw3⟩ : ∃ w3, w3 = w2.alloc (.cells #[.int .i64 0, .int .i64 1, .int .i64 6, .int .i64 k0, .int .i64 0, .string ⟨#[]⟩] 34) := ⟨_, rfl⟩
      have G3 : Hid (GLo w.heap.size w g 6 L c S2 w3 ∧ ReqB w3 b 0 1 6 k0 0 ⟨#[]⟩ ∧ ¬ S2 b) := by
        rw [hw3, hb]
        exact ⟨G2.out.on ((Below.refl _ _).alloc (Nat.le_refl _) _), ReqB.fresh w2 0 1 6 k0 0 ⟨#[]⟩ 34, fun hs => by have := (G2.out.all hs).2.1; omega⟩
      have HW3 := Lib.hid hw3
      have HB := Lib.hid hb
      clear hw3 hb G2
      go_upto_region 17 with fail
      rw [EK.out, ← HW3.out, ← HB.out]
      obtain ⟨e0, e1, e2, e3, e4, e5⟩ := G3.out.2.1.cells
      have hasks : ReqV.asks ⟨0, 1, 6, k0, 0, ⟨#[]⟩⟩ := by
        have hz : (⟨#[]⟩ : ByteArray).size = 0 := rfl
        refine ⟨?_, (by decide : (3 : Int) < 6)⟩
        unfold ReqV.may
        simp [hz]
        omega
      have HLa : Hid (∀ M, lastV18 L k0 = M → ∀ c S u, GLo w.heap.size w g 6 L c S u → Calls Try.prog 28 #[.pointer (some ⟨g, 0, none⟩), .int .i64 (k0 : Int)] u fun e w' => e = .returned (.int .i64 M) ∧ u = w') := fun M hM c S u hu => hu.last k0 M hM
      obtain ⟨M, hM⟩ : ∃ M, lastV18 L k0 = M := ⟨_, rfl⟩
      have HLx := Lib.hid (HLa.out M hM)
      clear HLa
      by_cases hcl : M ≤ (c : Int)
      · have hcv : ∀ c' : Nat, c ≤ c' → cleanV L c' k0 = true := fun c' h => by unfold cleanV; rw [hM]; exact decide_eq_true ⟨by omega, by omega, by omega⟩
        have hlast : lastL L k0 ≤ (c : Int) := by
          have h := hM
          unfold lastV18 at h
          rw [if_pos (by omega), Int.toNat_natCast] at h
          omega
        obtain ⟨cd, vr, d, l, hA⟩ : ∃ cd vr d l, askV ((stoOf 6 (L.take c)).res k0) 6 0 = ⟨cd, vr, d, l⟩ := ⟨_, _, _, _, rfl⟩
        obtain ⟨m, hm⟩ : ∃ m, l.length = m := ⟨_, rfl⟩
        have hlm : l.length ≤ 1000000 := by
          have h1 := askV_list ((stoOf 6 (L.take c)).res k0) 6 0
          rw [hA] at h1
          have h2 := ((stoOf_fit (q := 6) (by decide) (by decide) (L.take c)).res k0 hk32).1
          simp only at h1
          omega
        have HRd : Hid (∀ c' : Nat, c ≤ c' → c' ≤ N → ∀ S u, GLo w.heap.size w g 6 L c' S u → Calls Try.prog 27 #[.pointer (some ⟨g, 0, none⟩), .agg #[.int .i64 0, .int .i64 1, .int .i64 6, .int .i64 k0, .int .i64 0, .string ⟨#[]⟩]] u (ReadR l m cd vr d c' 0 u)) := fun c' h1 h2 S u hu =>
          dread_yes hu hL1 0 1 6 0 k0 ⟨#[]⟩ (by decide) hasks (hcv c' h1) cd vr d l m (by
            obtain ⟨dd, rfl⟩ : ∃ dd, c' = c + dd := ⟨c' - c, by omega⟩
            rw [res_same 6 hlast dd (by rw [← HNL.out]; exact h2), hA]) hm
        have HLM := Lib.hid hlm
        have hMc : ¬ (c : Int) < M := by omega
        obtain ⟨t, ht, et⟩ := left_in mo ((N : Int) - (c : Int) + 1) (by omega) (by omega)
        have ET := Lib.hid et
        have htN : c + t ≤ N := by omega
        have HC2 : Hid (∀ S u, GLo w.heap.size w g 6 L c S u → Calls Try.prog 21 #[.pointer (some ⟨g, 0, none⟩), .int .i64 ((c : Int) + (t : Int))] u (ComR w.heap.size w g 6 L (c + t) S u)) := fun S u hu => by
          have h := hu.comYes hL1 (c + t) (by omega) (by rw [← HNL.out]; exact htN)
          rwa [show (((c + t : Nat)) : Int) = (c : Int) + (t : Int) by omega] at h
        clear hcv hlast hA hlm hasks hm hM hcl et ht hL1
        go_wp2_with fail
        refine (HRd.out c (Nat.le_refl _) hcN _ _ G3.out.1).mono ?_
        rintro e w4 ⟨ao4, cp4, rfl, i4, l4, b4⟩
        obtain ⟨p, hp⟩ : ∃ p, p = w4.heap.size := ⟨_, rfl⟩
        obtain ⟨w5, hw5⟩ : ∃ w5, w5 = w4.alloc (.cells #[.int .i64 cd, .int .i64 vr, .string d, .slice ao4 m cp4] 48) := ⟨_, rfl⟩
        have D5 : Hid (DH w.heap.size w g L c S2 b k0 p cd vr d ao4 m cp4 l w5) := by
          have ha : Below w4.heap.size w4 w5 := by rw [hw5]; exact (Below.refl _ _).alloc (Nat.le_refl _) _
          have G4 := G3.out.1.on b4
          exact ⟨G4.on ha, (G3.out.2.1.keep b4 G3.out.2.1.lt).keep ha (Nat.lt_of_lt_of_le G3.out.2.1.lt b4.size), by rw [hw5, hp]; exact RepB.fresh _ _ _ _ _ _, (i4.keep ha).mono ha.size, G3.out.2.2, fun hs => by have := (G4.all hs).2.1; omega, fun hl a hx hs => by have h1 := l4 a hx; have h2 := (G3.out.1.all hs).2.1; omega⟩
        have HW5 := Lib.hid hw5
        have HP := Lib.hid hp
        clear hw5 hp i4 l4 b4 G3 e0 e1 e2 e3 e4 e5
        go_upto_region 18 with fail
        rw [← HW5.out, ← HP.out]
        go_wp2_with fail
        refine (HLx.out _ _ _ D5.out.lo).mono ?_
        rintro e w6 ⟨rfl, rfl⟩
        go_wp2_with fail
        refine (HLen.out _ _ _ D5.out.lo).mono ?_
        rintro e w6 ⟨rfl, rfl⟩
        go_wp2_with fail
        rw [ET.out, IntWalk.wrap64_in _ (by omega)]
        refine (HC2.out _ _ D5.out.lo).mono ?_
        rintro e w6 ⟨rfl, S6, T6⟩
        have D6 := Lib.hid (D5.out.turn T6)
        clear T6 D5 HC2 HW5 HP
        obtain ⟨e0, e1, e2, e3, e4, e5⟩ := D6.out.rb.cells
        go_wp2_with fail
        refine (HRd.out (c + t) (by omega) htN _ _ D6.out.lo).mono ?_
        rintro e w7 ⟨ao7, cp7, rfl, i7, l7, b7⟩
        obtain ⟨p2, hp2⟩ : ∃ p, p = w7.heap.size := ⟨_, rfl⟩
        obtain ⟨w8, hw8⟩ : ∃ w5, w5 = w7.alloc (.cells #[.int .i64 cd, .int .i64 vr, .string d, .slice ao7 m cp7] 48) := ⟨_, rfl⟩
        have D8 : Hid (DH w.heap.size w g L (c + t) S6 b k0 p cd vr d ao4 m cp4 l w8 ∧ RepB w8 p2 cd vr d (.slice ao7 m cp7) ∧ Ints w8 w8.heap.size (.slice ao7 m cp7) l) := by
          have ha : Below w7.heap.size w7 w8 := by rw [hw8]; exact (Below.refl _ _).alloc (Nat.le_refl _) _
          exact ⟨(D6.out.on b7).on ha, by rw [hw8, hp2]; exact RepB.fresh _ _ _ _ _ _, (i7.keep ha).mono ha.size⟩
        have HW8 := Lib.hid hw8
        have HP2 := Lib.hid hp2
        clear hw8 hp2 i7 l7 b7 D6 e0 e1 e2 e3 e4 e5
        go_upto_region 25 with fail
        rw [← HW8.out, ← HP2.out]
        go_wp2_with fail
        refine (HT.out _).mono ?_
        rintro e w9 ⟨rfl, b9⟩
        have D9 : Hid (DH w.heap.size w g L (c + t) S6 b k0 p cd vr d ao4 m cp4 l w9 ∧ RepB w9 p2 cd vr d (.slice ao7 m cp7) ∧ Ints w9 w9.heap.size (.slice ao7 m cp7) l) := ⟨D8.out.1.on b9, D8.out.2.1.keep b9 D8.out.2.1.lt, (D8.out.2.2.keep b9).mono b9.size⟩
        clear b9 D8 HW8 HP2
        obtain ⟨x0, x1, x2, x3⟩ := D9.out.1.rp.cells
        obtain ⟨y0, y1, y2, y3⟩ := D9.out.2.1.cells
        go_wp2_with fail
        refine (refsamereply_any cd vr cd vr d d _ _ l l _ w9 D9.out.1.iv D9.out.2.2 (Nat.le_refl _) HLM.out true (show _ = _ by simp)).mono ?_
        rintro e wa ⟨rfl, ba⟩
        have CA := Lib.hid (D9.out.1.on ba).lo.bel
        clear D9 ba x0 x1 x2 x3 y0 y1 y2 y3
        go_wp2
        go_returns
        exact ⟨rfl, CA.out⟩
      · have hcv : cleanV L c k0 = false := by unfold cleanV; rw [hM]; exact decide_eq_false (by omega)
        have HRn : Hid (∀ S u, GLo w.heap.size w g 6 L c S u → Calls Try.prog 27 #[.pointer (some ⟨g, 0, none⟩), .agg #[.int .i64 0, .int .i64 1, .int .i64 6, .int .i64 k0, .int .i64 0, .string ⟨#[]⟩]] u fun e w' => e = .returned (.tuple #[.agg #[.int .i64 0, .int .i64 0, .string ⟨#[]⟩, .slice none 0 0], .int .i64 0, .int .i64 4]) ∧ Below u.heap.size u w') := fun S u hu => dread_no hu 0 1 6 0 k0 ⟨#[]⟩ (by decide) hasks hcv
        have hMc : (c : Int) < M := by omega
        clear hcv hasks hM hcl
        go_wp2_with fail
        refine (HRn.out _ _ G3.out.1).mono ?_
        rintro e w4 ⟨rfl, b4⟩
        have G4 := Lib.hid (G3.out.1.on b4)
        clear b4 G3 e0 e1 e2 e3 e4 e5
        have G5 := Lib.hid (G4.out.on ((Below.refl _ _).alloc (Nat.le_refl _) (.cells #[.int .i64 0, .int .i64 0, .string ⟨#[]⟩, .slice none 0 0] 48)))
        clear G4
        go_wp2_with fail
        refine (HT.out _).mono ?_
        rintro e w6 ⟨rfl, b6⟩
        have G6 := Lib.hid (G5.out.on b6)
        clear b6 G5
        go_wp2_with fail
        refine (HLx.out _ _ _ G6.out).mono ?_
        rintro e w7 ⟨rfl, rfl⟩
        have C7 := Lib.hid G6.out.bel
        clear G6
        go_wp2
        go_returns
        exact ⟨rfl, C7.out⟩

theorem walk (v : Value) (L : List ReqV) (cm id_ mo : Int) (w : World) (hV : Reqs w w.heap.size v L) (_ : (Lit.int .i64 cm).wf = true) (_ : (Lit.int .i64 id_).wf = true) (_ : (Lit.int .i64 mo).wf = true) :
    Calls Try.prog 5 #[v, .int .i64 cm, .int .i64 id_, .int .i64 mo] w fun e w' => e = .returned (.bool true) ∧ Below w.heap.size w w' := by
  have hV' := hV
  obtain ⟨ao, cap, rfl, _⟩ := hV
  obtain ⟨hat, _, hml, hms⟩ := reqs_at hV'
  exact run ao _ cap L cm id_ mo w rfl hms hat

set_option maxRecDepth 100000 in
theorem lifted (os : Os) (started : os.Started) (H : Type) (enc : TypeId × Value → H) :
    ReturnsInHanded {} Try.checked os 5 .any (Rows.dirtyHoldsSpec.pre6 enc Try.prog Try.f5 Rows.dirtyHoldsRow.domain false) (Rows.dirtyHoldsSpec.post enc Try.prog Try.f5 false true false false) := by
  refine returnsInHanded_of_change (C := Try.checked) own started (by kernel_rfl) Try.func5
    (ChangeSpec.witness6 (enc := enc) (C := Try.checked) false ⟨#[], #[.slice none 0 0, .int .i64 0, .int .i64 0, .int .i64 0], []⟩ 8 (by kernel_rfl) (by kernel_rfl) (by kernel_rfl) (by kernel_rfl)) ?_
  intro W base args ds gs before hval0 hW hcnd _
  have hval : ∀ (j : Nat) t v, Try.f5.params[j]? = some t → args[j]? = some v → Value.okWide Try.prog W .any base t v := hval0
  have hW' := hW
  obtain ⟨p, q, hA0, hV, rfl, hfz, hnd⟩ := hW
  have hA : DataW.TrodAll enc Try.prog W 0 (fun _ => true) true Try.f5.params.toList args.toList ds p := hA0
  rw [Try.params5] at hA hval
  obtain ⟨v0, vs0, d0, ds0, p0, q0, hargs, rfl, rfl, h0, r0⟩ := trodAll_cons hA
  obtain ⟨v1, vs1, d1, ds1, p1, q1, rfl, rfl, rfl, h1, r1⟩ := trodAll_cons r0
  obtain ⟨v2, vs2, d2, ds2, p2, q2, rfl, rfl, rfl, h2, r2⟩ := trodAll_cons r1
  obtain ⟨v3, vs3, d3, ds3, p3, q3, rfl, rfl, rfl, h3, r3⟩ := trodAll_cons r2
  obtain ⟨rfl, rfl, rfl⟩ := trodAll_nil r3
  obtain rfl : args = #[v0, v1, v2, v3] := by cases args; simp_all
  obtain ⟨rfl, rfl⟩ := trodVars_none hV
  obtain ⟨a0, len0, cap0, rfl⟩ := okWide_slice Try.underlying29 (hval 0 29 v0 rfl rfl)
  have k0 := h0
  have lt0 : ∀ x ∈ p0, x.block < W.heap.size := by obtain ⟨m, hm⟩ := k0; exact DataW.trod_lt m _ _ _ hm
  obtain ⟨l0, w0⟩ := reqs_open h0
  obtain ⟨a1, rfl, rfl, rfl, w1⟩ := open_int Try.underlying3 (hval 1 3 v1 rfl rfl) h1
  obtain ⟨a2, rfl, rfl, rfl, w2⟩ := open_int Try.underlying3 (hval 2 3 v2 rfl rfl) h2
  obtain ⟨a3, rfl, rfl, rfl, w3⟩ := open_int Try.underlying3 (hval 3 3 v3 rfl rfl) h3
  clear hA0 hval0
  refine (walk (.slice a0 len0 cap0) l0 a1 a2 a3 W w0 w1 w2 w3).mono fun e W' ⟨he, bel⟩ => ?_
  subst he
  exact ⟨_, rfl, _, _, _, [], _, [], hW', trodAll_mk1 (shut_bool Try.underlying4 _), (trodAll_cons_mk (Below.trod laidOut (by kernel_rfl) (of_decide_eq_true (by kernel_rfl)) k0 bel lt0) (trodAll_cons_mk (shut_int Try.underlying3 w1) (trodAll_cons_mk (shut_int Try.underlying3 w2) (trodAll_cons_mk (shut_int Try.underlying3 w3) trodAll_mk0)))), rfl, bel.frame _, fun h => by cases h⟩

theorem over : Rows.dirtyHoldsRow.holds Try.pinned (OpenSpec.ofChange Rows.dirtyHoldsSpec) :=
  OpenClaim.holds_of_wide 5 Try.f5 rfl rfl rfl rfl rfl rfl rfl ⟨rfl, rfl, rfl, rfl, rfl⟩ rfl rfl rfl rfl rfl (by kernel_rfl) Try.func5 (by kernel_rfl)
    (of_decide_eq_true (by kernel_rfl)) (by unfold Func.isWrapper; first | (rw [if_pos (by decide +kernel)]; kernel_rfl) | (rw [if_neg (by decide +kernel)]; exact ⟨rfl, rfl⟩))
    (fun os started H enc _ => lifted os started H enc)
end Go.Proofs.Ytenjjgghoacboaa.DirtyHolds

namespace Go.Proofs.Ytenjjgghoacboaa
theorem dirtyHolds_holds : Rows.DirtyHoldsSaid := DirtyHolds.over
#print axioms dirtyHolds_holds
end Go.Proofs.Ytenjjgghoacboaa
