/-
  Which chains may be, and their bytes, is what the document says (2.3), as ItemChains says: for any chain (at most 20 nodes), any bytes (at most 100). No condition.
-/
import Derived.Test.YtocedkdgmhegeaaItemRC3
import Derived.Test.YtocedkdgmhegeaaItemBoth
namespace Go.Proofs.Ytocedkdgmhegeaa.ItemChains
open Go.ChangeShapes Go.WideShapes Go.ChangeAt Go.RowKit

theorem own_ints {w : World} {base : Nat} {v : Value} {n : Nat} {L : List Nat} (h : w.ownsRow base 3 1 v n (intCells (ofNats L))) : ∃ ao cap, v = .slice ao n cap ∧ Ints w w.heap.size (.slice ao n cap) (ofNats L) := by
  obtain ⟨a, c, rfl⟩ := own_shape h
  exact ⟨a, c, rfl, ints_own h (Nat.le_refl _)⟩

theorem both_chain (l : List UInt8) (hlim : l.length ≤ 1000) : ∃ (ep : Int) (L : List Int) (n : Nat) (err : Int), L.length = n ∧ n ≤ 5 ∧
    (∀ v u, Byt u u.heap.size v l → Calls Try.prog 23 #[v] u fun e w' => ∃ ao cap, e = .returned (.tuple #[.agg #[.int .i64 ep, .slice ao n cap], .int .i64 err]) ∧ Ints w' w'.heap.size (.slice ao n cap) L ∧ Below u.heap.size u w') ∧
    (∀ u, Calls Try.prog 24 #[.string (txt l)] u fun e w' => ∃ ao cap, e = .returned (.tuple #[.agg #[.int .i64 ep, .slice ao n cap], .int .i64 err]) ∧ Ints w' w'.heap.size (.slice ao n cap) L ∧ Below u.heap.size u w') := by
  by_cases hg : goodC progC l
  · have h2 := goodC_same refC_wide hg
    have hm := hg.2
    refine ⟨(gotC progC l).ep, ofNats (gotC progC l).nodes, (gotC progC l).nodes.length, 0, by simp [ofNats], ?_, fun v u hb => ?_, fun u => ?_⟩
    · have := hm.2.2.2.1
      simpa [GotC.chain] using this
    · refine (getchain_good v _ l u hb (Nat.le_refl _) (by omega) hg).mono ?_
      rintro e w' ⟨v', rfl, ho, hbel⟩
      obtain ⟨ao, cap, rfl, hi⟩ := own_ints ho
      exact ⟨ao, cap, rfl, hi, hbel⟩
    · have := refgetchain_good l u hlim h2.1
      rw [h2.2] at this
      refine this.mono ?_
      rintro e w' ⟨v', rfl, ho, hbel⟩
      obtain ⟨ao, cap, rfl, hi⟩ := own_ints ho
      exact ⟨ao, cap, rfl, hi, hbel⟩
  · have h2 : ¬ goodC refC l := fun h => hg (goodC_same progC_wide h).1
    refine ⟨0, [], 0, 2, rfl, by omega, fun v u hb => ?_, fun u => ?_⟩
    · refine (getchain_bad v _ l u hb (Nat.le_refl _) (by omega) hg).mono ?_
      rintro e w' ⟨rfl, hbel⟩
      exact ⟨none, 0, rfl, Ints.none _ _, hbel⟩
    · refine (refgetchain_bad l u hlim h2).mono ?_
      rintro e w' ⟨rfl, hbel⟩
      exact ⟨none, 0, rfl, Ints.none _ _, hbel⟩

/-- The chain's block stands, and the bytes that were put; nothing below has turned. -/
structure PX (w v : World) (ep : Int) (c : Value) (B : Nat) (x : Value) (bs : List UInt8) : Prop where
  q : ChB v w.heap.size ep c
  x : Byt v B x bs
  bel : Below w.heap.size w v
  hB : B ≤ v.heap.size
theorem PX.step {w u v : World} {ep : Int} {c : Value} {B : Nat} {x : Value} {bs : List UInt8} (h : PX w u ep c B x bs) (hb : Below u.heap.size u v) : PX w v ep c B x bs :=
  ⟨h.q.keep hb h.q.lt, h.x.keep (hb.mono h.hB), h.bel.trans (hb.mono h.bel.size), Nat.le_trans h.hB hb.size⟩
theorem PX.conv {w v : World} {ep : Int} {c : Value} {B : Nat} {x : Value} {bs : List UInt8} (h : PX w v ep c B x bs) : (convert 24 9 x).run Try.prog v = .ok (.string (txt bs)) v := run_conv_byt h.x

set_option maxHeartbeats 2000000 in
set_option maxRecDepth 100000 in
theorem many (ep : Int) (ao : Option Addr) (n cap : Nat) (L : List Int) (v : Value) (l : List UInt8) (w : World) (_ : L.length = n) (_ : Ints w w.heap.size (.slice ao n cap) L) (hb : Byt w w.heap.size v l) (hl : 20 < n) :
    Calls Try.prog 5 #[.agg #[.int .i64 ep, .slice ao n cap], v] w fun e w' => e = .returned (.bool true) ∧ Below w.heap.size w w' := by
  have HT := Lib.hid (fun u => told2_any u)
  obtain ⟨a, c, rfl⟩ := byt_slice hb
  clear hb
  go_enter Try.func5, Try.ntmps5
  go_wp2_with fail
  refine (HT.out _).mono ?_
  rintro e w2 ⟨rfl, B2⟩
  have C2 : Hid (Below w.heap.size w w2) := ((Below.refl _ w).alloc (Nat.le_refl _) _).trans (B2.mono (by simp))
  clear B2
  go_wp2
  go_returns
  exact ⟨rfl, C2.out⟩

set_option maxHeartbeats 2000000 in
set_option maxRecDepth 100000 in
theorem long (ep : Int) (ao : Option Addr) (n cap : Nat) (L : List Int) (v : Value) (l : List UInt8) (w : World) (_ : L.length = n) (_ : Ints w w.heap.size (.slice ao n cap) L) (hb : Byt w w.heap.size v l) (hl : n ≤ 20) (hl2 : 100 < l.length) :
    Calls Try.prog 5 #[.agg #[.int .i64 ep, .slice ao n cap], v] w fun e w' => e = .returned (.bool true) ∧ Below w.heap.size w w' := by
  have HT := Lib.hid (fun u => told2_any u)
  obtain ⟨a, c, rfl⟩ := byt_slice hb
  obtain ⟨m, hm⟩ : ∃ m, l.length = m := ⟨_, rfl⟩
  rw [hm] at hl2 ⊢
  clear hb hm
  go_enter Try.func5, Try.ntmps5
  go_wp2_with fail
  refine (HT.out _).mono ?_
  rintro e w2 ⟨rfl, B2⟩
  have C2 : Hid (Below w.heap.size w w2) := ((Below.refl _ w).alloc (Nat.le_refl _) _).trans (B2.mono (by simp))
  clear B2
  go_wp2
  go_returns
  exact ⟨rfl, C2.out⟩

set_option maxHeartbeats 2000000 in
set_option maxRecDepth 100000 in
theorem good (ep : Int) (ao : Option Addr) (n cap : Nat) (L : List Int) (v : Value) (l : List UInt8) (w : World) (hn : L.length = n) (hI : Ints w w.heap.size (.slice ao n cap) L) (hb : Byt w w.heap.size v l) (hl : n ≤ 20) (hl2 : l.length ≤ 100) (hm : ChainV.may ⟨ep, L⟩) :
    Calls Try.prog 5 #[.agg #[.int .i64 ep, .slice ao n cap], v] w fun e w' => e = .returned (.bool true) ∧ Below w.heap.size w w' := by
  have HT := Lib.hid (fun u => told2_any u)
  have HI := Lib.hid hI
  have HL := Lib.hid hn
  have HMP : Hid (∀ u, Below w.heap.size w u → Calls Try.prog 21 #[.agg #[.int .i64 ep, .slice ao n cap]] u fun e w' => e = .returned (.bool true) ∧ Below u.heap.size u w') := fun u hu => maychain_r ep _ L w.heap.size u (hI.keep hu) hu.size true (show _ = _ from (decide_eq_true hm).symm)
  have HMR : Hid (∀ u, Below w.heap.size w u → Calls Try.prog 19 #[.agg #[.int .i64 ep, .slice ao n cap]] u fun e w' => e = .returned (.bool true) ∧ Below u.heap.size u w') := fun u hu => refmaychain_r ep _ L w.heap.size u (hI.keep hu) hu.size true (show _ = _ from (decide_eq_true hm).symm)
  obtain ⟨ep2, L2, m, err, hL2, hm5, hgp, hgr⟩ := both_chain l (by omega)
  have HGP := Lib.hid hgp
  have HGR := Lib.hid hgr
  have HL2 := Lib.hid hL2
  obtain ⟨a, c, rfl⟩ := byt_slice hb
  obtain ⟨bl, hbl⟩ : ∃ bl, l.length = bl := ⟨_, rfl⟩
  have HB : Hid (Byt w w.heap.size (.slice a bl c) l) := by rw [← hbl]; exact hb
  rw [hbl] at hl2 ⊢
  have HP : Hid (∀ u, Below w.heap.size w u → Calls Try.prog 20 #[.agg #[.int .i64 ep, .slice ao n cap]] u fun e w' => ∃ v', e = .returned (.tuple #[v', .int .i64 0]) ∧
      w'.ownsRow u.heap.size 5 1 v' (ChainV.bytes ⟨ep, L⟩).length (Lib.byteCells (ChainV.bytes ⟨ep, L⟩)) ∧ Below u.heap.size u w') := fun u hu => putchain_yes ep _ L w.heap.size u (hI.keep hu) hu.size hm
  have HPR : Hid (∀ u, Below w.heap.size w u → Calls Try.prog 22 #[.agg #[.int .i64 ep, .slice ao n cap]] u fun e w' => e = .returned (.string (txt (ChainV.bytes ⟨ep, L⟩))) ∧ Below u.heap.size u w') := fun u hu => refputchain_any ep _ L w.heap.size u (hI.keep hu) hu.size hm
  have HGX : Hid (∀ v u, Byt u u.heap.size v (ChainV.bytes ⟨ep, L⟩) → Calls Try.prog 23 #[v] u fun e w' => ∃ ao cap, e = .returned (.tuple #[.agg #[.int .i64 ep, .slice ao n cap], .int .i64 0]) ∧ Ints w' w'.heap.size (.slice ao n cap) L ∧ Below u.heap.size u w') := by
    intro v u hv
    have hc := ChainV.got_chain ⟨ep, L⟩ hm
    have hgm : (ChainV.got ⟨ep, L⟩).chain.may := by rw [hc]; exact hm
    have h := goodC_put progC_wide (ChainV.got ⟨ep, L⟩) hgm
    rw [ChainV.got_bytes] at h
    have hlen := chain_len (ChainV.got ⟨ep, L⟩) hgm
    rw [ChainV.got_bytes] at hlen
    have := getchain_good v _ _ u hv (Nat.le_refl _) (by omega) h.1
    rw [h.2] at this
    refine this.mono ?_
    rintro e w' ⟨v', rfl, ho, hbel⟩
    obtain ⟨ao, cap, rfl, hi⟩ := own_ints ho
    have e1 : (((ChainV.got ⟨ep, L⟩).ep : Nat) : Int) = ep := congrArg ChainV.epoch hc
    have e2 : ofNats (ChainV.got ⟨ep, L⟩).nodes = L := congrArg ChainV.nodes hc
    have e3 : (ChainV.got ⟨ep, L⟩).nodes.length = n := by show (L.map Int.toNat).length = n; rw [List.length_map]; exact hn
    rw [e1, e3]
    rw [e2, e3] at hi
    exact ⟨ao, cap, rfl, hi, hbel⟩
  obtain ⟨bs, hbs⟩ : ∃ bs, bs = ChainV.bytes ⟨ep, L⟩ := ⟨_, rfl⟩
  rw [← hbs] at HP HPR HGX
  obtain ⟨X, hX⟩ : ∃ X, X = txt bs := ⟨_, rfl⟩
  rw [← hX] at HPR
  have HXE := Lib.hid hX
  clear hbs hX
  have C0 : Hid (∀ o, Below w.heap.size w (w.alloc o)) := fun o => (Below.refl _ w).alloc (Nat.le_refl _) o
  clear hb hm hgp hgr hI hn hL2 hbl
  go_enter Try.func5, Try.ntmps5
  go_wp2_with fail
  refine (HMR.out _ (C0.out _)).mono ?_
  rintro e w2 ⟨rfl, B2⟩
  have D2 : Hid (ChB w2 w.heap.size ep (.slice ao n cap)) := (ChB.fresh w _ _ 38).keep B2 (by simp)
  have C2 : Hid (Below w.heap.size w w2) := (C0.out _).trans (B2.mono (by simp))
  clear B2
  obtain ⟨c0, c1⟩ := D2.out.cells
  go_wp2_with fail
  refine (HP.out _ C2.out).mono ?_
  rintro e w3 ⟨vx, rfl, OX, B3⟩
  have D3 : Hid (ChB w3 w.heap.size ep (.slice ao n cap)) := D2.out.keep B3 D2.out.lt
  have C3 : Hid (Below w.heap.size w w3) := C2.out.trans (B3.mono C2.out.size)
  have YX := Lib.hid (byt_own OX (Nat.le_refl _))
  obtain ⟨ax, cx, rfl⟩ := own_shape OX
  clear B3 OX c0 c1
  have P0 : PX w w3.drew ep (.slice ao n cap) w3.heap.size (.slice ax bs.length cx) bs := ⟨D3.out, YX.out, C3.out.drew, Nat.le_refl _⟩
  have FX : Hid (∀ u, PX w u ep (.slice ao n cap) w3.heap.size (.slice ax bs.length cx) bs → u.cell? ⟨w.heap.size, 0, none⟩ = some (.int .i64 ep) ∧ u.cell? ⟨w.heap.size, 1, none⟩ = some (.slice ao n cap) ∧ (convert 24 9 (.slice ax bs.length cx)).run Try.prog u = .ok (.string X) u) := fun u hu =>
    ⟨hu.q.cells.1, hu.q.cells.2, by rw [HXE.out]; exact hu.conv⟩
  go_wp2_with fail
  refine region_quiet (fun v => PX w v ep (.slice ao n cap) w3.heap.size (.slice ax bs.length cx) bs) (by kernel_rfl) (by kernel_rfl) P0 ?_
  repeat (first
    | go_big_quiet_skip
    | (go_big_quiet_want
       (first
        | (refine quiet_run (v := ?_) ?_ ?_; rotate_left; (intro u hu; obtain ⟨c0, c1, k0⟩ := FX.out u hu; go_simp <;> with_reducible rfl); simp only [Act.put, List.setIfInBounds_toArray, List.set_cons_zero, List.set_cons_succ]; go_big_quiet_on)
        | (refine quiet_enter 21 _ ?_ (fun u hu => (HMP.out u hu.bel).mono fun e u' ⟨he, hb⟩ => ⟨he, hu.step hb⟩) ?_; (focus (intro u; first | (go_simp; done) | (go_simp; with_reducible rfl))); simp only [Act.put, List.setIfInBounds_toArray, List.set_cons_zero, List.set_cons_succ]; go_big_quiet_on)
        | (refine quiet_enter 22 _ ?_ (fun u hu => (HPR.out u hu.bel).mono fun e u' ⟨he, hb⟩ => ⟨he, hu.step hb⟩) ?_; (focus (intro u; first | (go_simp; done) | (go_simp; with_reducible rfl))); simp only [Act.put, List.setIfInBounds_toArray, List.set_cons_zero, List.set_cons_succ]; go_big_quiet_on))))
  refine wpQuiet_nil ?_
  intro w4 h4
  have C4 : Hid (Below w.heap.size w w4) := h4.bel
  have D4 : Hid (ChB w4 w.heap.size ep (.slice ao n cap)) := h4.q
  have YB : Hid (Byt w4 w4.heap.size (.slice a bl c) l) := (HB.out.keep C4.out).mono C4.out.size
  have YX4 : Hid (Byt w4 w4.heap.size (.slice ax bs.length cx) bs) := h4.x.mono h4.hB
  clear P0 FX h4
  go_wp2_with fail
  refine (HGP.out _ _ YB.out).mono ?_
  rintro e w5 ⟨y1, y2, rfl, I5, B5⟩
  have C5 : Hid (Below w.heap.size w w5) := C4.out.trans (B5.mono C4.out.size)
  have HI5 := Lib.hid I5
  have YB5 : Hid (∀ o, Byt (w5.alloc o) (w5.alloc o).heap.size (.slice a bl c) l) := fun o => ((YB.out.keep B5).mono B5.size).keep ((Below.refl _ _).alloc (Nat.le_refl _) _) |>.mono (by simp)
  have KB : Hid (∀ o, (convert 24 9 (.slice a bl c)).run Try.prog (w5.alloc o) = .ok (.string (txt l)) (w5.alloc o)) := fun o => run_conv_byt (YB5.out o)
  have kb := KB.out (.cells #[.int .i64 ep2, .slice y1 m y2] 38)
  have YX5 : Hid (Byt w5 w5.heap.size (.slice ax bs.length cx) bs) := (YX4.out.keep B5).mono B5.size
  have D5 : Hid (ChB w5 w.heap.size ep (.slice ao n cap)) := D4.out.keep B5 D4.out.lt
  clear B5 I5
  go_wp2_with fail
  refine (HGR.out _).mono ?_
  rintro e w6 ⟨z1, z2, rfl, I6, B6⟩
  have B56 := ((Below.refl _ w5).alloc (Nat.le_refl _) (.cells #[.int .i64 ep2, .slice y1 m y2] 38)).trans (B6.mono (by simp))
  have Y6 : Hid (ChB w6 w5.heap.size ep2 (.slice y1 m y2)) := (ChB.fresh w5 _ _ 38).keep B6 (by simp)
  have C6 : Hid (Below w.heap.size w w6) := C5.out.trans (B56.mono C5.out.size)
  have HI6y : Hid (Ints w6 w6.heap.size (.slice y1 m y2) L2) := (HI5.out.keep B56).mono B56.size
  have HI6z := Lib.hid I6
  have YX6 : Hid (Byt w6 w6.heap.size (.slice ax bs.length cx) bs) := (YX5.out.keep B56).mono B56.size
  have D6 : Hid (ChB w6 w.heap.size ep (.slice ao n cap)) := D5.out.keep B56 D5.out.lt
  clear B6 B56 I6 kb
  have A6 : Hid (∀ o, Below w6.heap.size w6 (w6.alloc o)) := fun o => (Below.refl _ _).alloc (Nat.le_refl _) o
  have HSM : Hid (∀ o, Calls Try.prog 25 #[.agg #[.int .i64 ep2, .slice y1 m y2], .agg #[.int .i64 ep2, .slice z1 m z2]] (w6.alloc o) fun e w' => e = .returned (.bool true) ∧ Below (w6.alloc o).heap.size (w6.alloc o) w') := by
    intro o
    have := refsame_any ep2 ep2 (.slice y1 m y2) (.slice z1 m z2) L2 L2 w6.heap.size (w6.alloc o) (HI6y.out.keep (A6.out o)) (HI6z.out.keep (A6.out o)) (A6.out o).size (by rw [HL2.out]; omega)
    rwa [decide_eq_true (show ep2 = ep2 ∧ L2 = L2 from ⟨rfl, rfl⟩)] at this
  have lt6 := Y6.out.lt
  obtain ⟨c0, c1⟩ := Y6.out.cells
  go_wp2_with fail
  refine (HSM.out _).mono ?_
  rintro e w7 ⟨rfl, B7⟩
  have B67 := (A6.out (.cells #[.int .i64 ep2, .slice z1 m z2] 38)).trans (B7.mono (by simp))
  have C7 : Hid (Below w.heap.size w w7) := C6.out.trans (B67.mono C6.out.size)
  have YX7 : Hid (Byt w7 w7.heap.size (.slice ax bs.length cx) bs) := (YX6.out.keep B67).mono B67.size
  have D7 : Hid (ChB w7 w.heap.size ep (.slice ao n cap)) := D6.out.keep B67 D6.out.lt
  clear B7 B67 c0 c1
  go_wp2_with fail
  refine (HGX.out _ _ YX7.out).mono ?_
  rintro e w8 ⟨g1, g2, rfl, I8, B8⟩
  have C8 : Hid (Below w.heap.size w w8) := C7.out.trans (B8.mono C7.out.size)
  have D8 : Hid (ChB w8 w.heap.size ep (.slice ao n cap)) := D7.out.keep B8 D7.out.lt
  have HI8 := Lib.hid I8
  clear B8 I8
  go_wp2_with fail
  refine (HT.out _).mono ?_
  rintro e w9 ⟨rfl, B9⟩
  have B89 := ((Below.refl _ w8).alloc (Nat.le_refl _) (.cells #[.int .i64 ep, .slice g1 n g2] 38)).trans (B9.mono (by simp))
  have C9 : Hid (Below w.heap.size w w9) := C8.out.trans (B89.mono C8.out.size)
  have D9 : Hid (ChB w9 w.heap.size ep (.slice ao n cap)) := D8.out.keep B89 D8.out.lt
  have E9 : Hid (ChB w9 w8.heap.size ep (.slice g1 n g2)) := (ChB.fresh w8 _ _ 38).keep B9 (by simp)
  have HI9 : Hid (Ints w9 w9.heap.size (.slice g1 n g2) L) := (HI8.out.keep B89).mono B89.size
  have HSC : Hid (Calls Try.prog 25 #[.agg #[.int .i64 ep, .slice g1 n g2], .agg #[.int .i64 ep, .slice ao n cap]] w9 fun e w' => e = .returned (.bool true) ∧ Below w9.heap.size w9 w') := by
    have := refsame_any ep ep (.slice g1 n g2) (.slice ao n cap) L L w9.heap.size w9 HI9.out ((HI.out.keep C9.out).mono C9.out.size) (Nat.le_refl _) (by rw [HL.out]; omega)
    rwa [decide_eq_true (show ep = ep ∧ L = L from ⟨rfl, rfl⟩)] at this
  clear B9 B89
  obtain ⟨c0, c1⟩ := D9.out.cells
  obtain ⟨d0, d1⟩ := E9.out.cells
  go_wp2_with fail
  refine HSC.out.mono ?_
  rintro e w10 ⟨rfl, B10⟩
  have C10 : Hid (Below w.heap.size w w10) := C9.out.trans (B10.mono C9.out.size)
  clear B10
  go_wp2
  go_returns
  exact ⟨rfl, C10.out⟩

set_option maxHeartbeats 2000000 in
set_option maxRecDepth 100000 in
theorem wrong (ep : Int) (ao : Option Addr) (n cap : Nat) (L : List Int) (v : Value) (l : List UInt8) (w : World) (hn : L.length = n) (hI : Ints w w.heap.size (.slice ao n cap) L) (hb : Byt w w.heap.size v l) (hl : n ≤ 20) (hl2 : l.length ≤ 100) (hm : ¬ ChainV.may ⟨ep, L⟩) :
    Calls Try.prog 5 #[.agg #[.int .i64 ep, .slice ao n cap], v] w fun e w' => e = .returned (.bool true) ∧ Below w.heap.size w w' := by
  have HT := Lib.hid (fun u => told2_any u)
  have HI := Lib.hid hI
  have HL := Lib.hid hn
  have HMP : Hid (∀ u, Below w.heap.size w u → Calls Try.prog 21 #[.agg #[.int .i64 ep, .slice ao n cap]] u fun e w' => e = .returned (.bool false) ∧ Below u.heap.size u w') := fun u hu => maychain_r ep _ L w.heap.size u (hI.keep hu) hu.size false (show _ = _ from (decide_eq_false hm).symm)
  have HMR : Hid (∀ u, Below w.heap.size w u → Calls Try.prog 19 #[.agg #[.int .i64 ep, .slice ao n cap]] u fun e w' => e = .returned (.bool false) ∧ Below u.heap.size u w') := fun u hu => refmaychain_r ep _ L w.heap.size u (hI.keep hu) hu.size false (show _ = _ from (decide_eq_false hm).symm)
  obtain ⟨ep2, L2, m, err, hL2, hm5, hgp, hgr⟩ := both_chain l (by omega)
  have HGP := Lib.hid hgp
  have HGR := Lib.hid hgr
  have HL2 := Lib.hid hL2
  obtain ⟨a, c, rfl⟩ := byt_slice hb
  obtain ⟨bl, hbl⟩ : ∃ bl, l.length = bl := ⟨_, rfl⟩
  have HB : Hid (Byt w w.heap.size (.slice a bl c) l) := by rw [← hbl]; exact hb
  rw [hbl] at hl2 ⊢
  have HP : Hid (∀ u, Below w.heap.size w u → Calls Try.prog 20 #[.agg #[.int .i64 ep, .slice ao n cap]] u fun e w' => e = .returned (.tuple #[.slice none 0 0, .int .i64 1]) ∧ Below u.heap.size u w') := fun u hu => putchain_no ep _ L w.heap.size u (hI.keep hu) hu.size hm
  have C0 : Hid (∀ o, Below w.heap.size w (w.alloc o)) := fun o => (Below.refl _ w).alloc (Nat.le_refl _) o
  clear hb hm hgp hgr hI hn hL2 hbl
  go_enter Try.func5, Try.ntmps5
  go_wp2_with fail
  refine (HMR.out _ (C0.out _)).mono ?_
  rintro e w2 ⟨rfl, B2⟩
  have D2 : Hid (ChB w2 w.heap.size ep (.slice ao n cap)) := (ChB.fresh w _ _ 38).keep B2 (by simp)
  have C2 : Hid (Below w.heap.size w w2) := (C0.out _).trans (B2.mono (by simp))
  clear B2
  obtain ⟨c0, c1⟩ := D2.out.cells
  go_wp2_with fail
  refine (HP.out _ C2.out).mono ?_
  rintro e w3 ⟨rfl, B3⟩
  have D3 : Hid (ChB w3 w.heap.size ep (.slice ao n cap)) := D2.out.keep B3 D2.out.lt
  have C3 : Hid (Below w.heap.size w w3) := C2.out.trans (B3.mono C2.out.size)
  clear B3 c0 c1
  have P0 : PC w w3.drew ep (.slice ao n cap) := ⟨D3.out, C3.out.drew⟩
  have FX : Hid (∀ u, PC w u ep (.slice ao n cap) → u.cell? ⟨w.heap.size, 0, none⟩ = some (.int .i64 ep) ∧ u.cell? ⟨w.heap.size, 1, none⟩ = some (.slice ao n cap)) := fun u hu => hu.q.cells
  go_wp2_with fail
  refine region_quiet (fun v => PC w v ep (.slice ao n cap)) (by kernel_rfl) (by kernel_rfl) P0 ?_
  repeat (first
    | go_big_quiet_skip
    | (go_big_quiet_want
       (first
        | (refine quiet_run (v := ?_) ?_ ?_; rotate_left; (intro u hu; obtain ⟨c0, c1⟩ := FX.out u hu; go_simp <;> with_reducible rfl); simp only [Act.put, List.setIfInBounds_toArray, List.set_cons_zero, List.set_cons_succ]; go_big_quiet_on)
        | (refine quiet_enter 21 _ ?_ (fun u hu => (HMP.out u hu.bel).mono fun e u' ⟨he, hb⟩ => ⟨he, hu.step hb⟩) ?_; (focus (intro u; first | (go_simp; done) | (go_simp; with_reducible rfl))); simp only [Act.put, List.setIfInBounds_toArray, List.set_cons_zero, List.set_cons_succ]; go_big_quiet_on))))
  refine wpQuiet_nil ?_
  intro w4 h4
  have C4 : Hid (Below w.heap.size w w4) := h4.bel
  have YB : Hid (Byt w4 w4.heap.size (.slice a bl c) l) := (HB.out.keep C4.out).mono C4.out.size
  clear P0 FX h4
  go_wp2_with fail
  refine (HGP.out _ _ YB.out).mono ?_
  rintro e w5 ⟨y1, y2, rfl, I5, B5⟩
  have C5 : Hid (Below w.heap.size w w5) := C4.out.trans (B5.mono C4.out.size)
  have HI5 := Lib.hid I5
  have YB5 : Hid (∀ o, Byt (w5.alloc o) (w5.alloc o).heap.size (.slice a bl c) l) := fun o => ((YB.out.keep B5).mono B5.size).keep ((Below.refl _ _).alloc (Nat.le_refl _) _) |>.mono (by simp)
  have KB : Hid (∀ o, (convert 24 9 (.slice a bl c)).run Try.prog (w5.alloc o) = .ok (.string (txt l)) (w5.alloc o)) := fun o => run_conv_byt (YB5.out o)
  have kb := KB.out (.cells #[.int .i64 ep2, .slice y1 m y2] 38)
  clear B5 I5
  go_wp2_with fail
  refine (HGR.out _).mono ?_
  rintro e w6 ⟨z1, z2, rfl, I6, B6⟩
  have B56 := ((Below.refl _ w5).alloc (Nat.le_refl _) (.cells #[.int .i64 ep2, .slice y1 m y2] 38)).trans (B6.mono (by simp))
  have Y6 : Hid (ChB w6 w5.heap.size ep2 (.slice y1 m y2)) := (ChB.fresh w5 _ _ 38).keep B6 (by simp)
  have C6 : Hid (Below w.heap.size w w6) := C5.out.trans (B56.mono C5.out.size)
  have HI6y : Hid (Ints w6 w6.heap.size (.slice y1 m y2) L2) := (HI5.out.keep B56).mono B56.size
  have HI6z := Lib.hid I6
  clear B6 B56 I6 kb
  have A6 : Hid (∀ o, Below w6.heap.size w6 (w6.alloc o)) := fun o => (Below.refl _ _).alloc (Nat.le_refl _) o
  have HSM : Hid (∀ o, Calls Try.prog 25 #[.agg #[.int .i64 ep2, .slice y1 m y2], .agg #[.int .i64 ep2, .slice z1 m z2]] (w6.alloc o) fun e w' => e = .returned (.bool true) ∧ Below (w6.alloc o).heap.size (w6.alloc o) w') := by
    intro o
    have := refsame_any ep2 ep2 (.slice y1 m y2) (.slice z1 m z2) L2 L2 w6.heap.size (w6.alloc o) (HI6y.out.keep (A6.out o)) (HI6z.out.keep (A6.out o)) (A6.out o).size (by rw [HL2.out]; omega)
    rwa [decide_eq_true (show ep2 = ep2 ∧ L2 = L2 from ⟨rfl, rfl⟩)] at this
  have lt6 := Y6.out.lt
  obtain ⟨c0, c1⟩ := Y6.out.cells
  go_wp2_with fail
  refine (HSM.out _).mono ?_
  rintro e w7 ⟨rfl, B7⟩
  have B67 := (A6.out (.cells #[.int .i64 ep2, .slice z1 m z2] 38)).trans (B7.mono (by simp))
  have C7 : Hid (Below w.heap.size w w7) := C6.out.trans (B67.mono C6.out.size)
  clear B7 B67 c0 c1
  go_wp2_with fail
  refine (HT.out _).mono ?_
  rintro e w9 ⟨rfl, B9⟩
  have C9 : Hid (Below w.heap.size w w9) := C7.out.trans (B9.mono C7.out.size)
  clear B9
  go_wp2
  go_returns
  exact ⟨rfl, C9.out⟩

theorem walk (ep : Int) (vc : Value) (L : List Int) (v : Value) (l : List UInt8) (w : World) (hI : Ints w w.heap.size vc L) (hb : Byt w w.heap.size v l) :
    Calls Try.prog 5 #[.agg #[.int .i64 ep, vc], v] w fun e w' => e = .returned (.bool true) ∧ Below w.heap.size w w' := by
  have hI' := hI
  obtain ⟨ao, cap, rfl, _⟩ := hI'
  by_cases hl : L.length ≤ 20
  case neg => exact many ep ao _ cap L v l w rfl hI hb (by omega)
  by_cases hl2 : l.length ≤ 100
  case neg => exact long ep ao _ cap L v l w rfl hI hb hl (by omega)
  by_cases hm : ChainV.may ⟨ep, L⟩
  · exact good ep ao _ cap L v l w rfl hI hb hl hl2 hm
  · exact wrong ep ao _ cap L v l w rfl hI hb hl hl2 hm

set_option maxRecDepth 100000 in
theorem lifted (os : Os) (started : os.Started) (H : Type) (enc : TypeId × Value → H) :
    ReturnsInHanded {} Try.checked os 5 .any (Rows.itemChainsSpec.pre6 enc Try.prog Try.f5 Rows.itemChainsRow.domain false) (Rows.itemChainsSpec.post enc Try.prog Try.f5 false true false false) := by
  refine returnsInHanded_of_change (C := Try.checked) own started (by kernel_rfl) Try.func5
    (ChangeSpec.witness6 (enc := enc) (C := Try.checked) false ⟨#[], #[.agg #[.int .i64 0, .slice none 0 0], .slice none 0 0], []⟩ 8 (by kernel_rfl) (by kernel_rfl) (by kernel_rfl) (by kernel_rfl)) ?_
  intro W base args ds gs before hval0 hW hcnd _
  have hval : ∀ (j : Nat) t v, Try.f5.params[j]? = some t → args[j]? = some v → Value.okWide Try.prog W .any base t v := hval0
  have hW' := hW
  obtain ⟨p, q, hA0, hV, rfl, hfz, hnd⟩ := hW
  have hA : DataW.TrodAll enc Try.prog W 0 (fun _ => true) true Try.f5.params.toList args.toList ds p := hA0
  rw [Try.params5] at hA hval
  obtain ⟨v0, vs0, d0, ds0, p0, q0, hargs, rfl, rfl, h0, r0⟩ := trodAll_cons hA
  obtain ⟨v1, vs1, d1, ds1, p1, q1, rfl, rfl, rfl, h1, r1⟩ := trodAll_cons r0
  obtain ⟨rfl, rfl, rfl⟩ := trodAll_nil r1
  obtain rfl : args = #[v0, v1] := by cases args; simp_all
  obtain ⟨rfl, rfl⟩ := trodVars_none hV
  have k0 := h0
  have lt0 : ∀ x ∈ p0, x.block < W.heap.size := by obtain ⟨m, hm⟩ := k0; exact DataW.trod_lt m _ _ _ hm
  obtain ⟨xa0, xb0, xc0, xd0, l0, rfl, w0⟩ := chain_open (hval 0 38 v0 rfl rfl) h0
  obtain ⟨a1, len1, cap1, rfl⟩ := okWide_slice Try.underlying24 (hval 1 24 v1 rfl rfl)
  have k1 := h1
  have lt1 : ∀ x ∈ p1, x.block < W.heap.size := by obtain ⟨m, hm⟩ := k1; exact DataW.trod_lt m _ _ _ hm
  obtain ⟨l1, w1⟩ : ∃ l, Byt W W.heap.size (.slice a1 len1 cap1) l := by
    obtain ⟨fuel, hf⟩ := h1
    rcases open_ints Try.underlying24 Try.underlying5 (by kernel_rfl) hf with ⟨hcs, _⟩ | ⟨x, l, c, zs, hcs, _, hl, hm, hz, _, hcell, hwz⟩
    · simp [Value.cells] at hcs
      obtain ⟨rfl, rfl, rfl⟩ := hcs
      exact ⟨[], Byt.none _ _⟩
    · simp [Value.cells] at hcs
      obtain ⟨rfl, rfl, rfl⟩ := hcs
      obtain ⟨l, _, hb⟩ := byt_row hl hm (by simpa using hz) hcell hwz
      exact ⟨l, hb⟩
  clear hA0 hval0
  refine (walk xa0 (.slice xb0 xc0 xd0) l0 (.slice a1 len1 cap1) l1 W w0 w1).mono fun e W' ⟨he, bel⟩ => ?_
  subst he
  exact ⟨_, rfl, _, _, _, [], _, [], hW', trodAll_mk1 (shut_bool Try.underlying4 _), (trodAll_cons_mk (Below.trod laidOut (by kernel_rfl) (of_decide_eq_true (by kernel_rfl)) k0 bel lt0) (trodAll_cons_mk (Below.trod laidOut (by kernel_rfl) (of_decide_eq_true (by kernel_rfl)) k1 bel lt1) trodAll_mk0)), rfl, bel.frame _, fun h => by cases h⟩

theorem over : Rows.itemChainsRow.holds Try.pinned (OpenSpec.ofChange Rows.itemChainsSpec) :=
  OpenClaim.holds_of_wide 5 Try.f5 rfl rfl rfl rfl rfl rfl rfl ⟨rfl, rfl, rfl, rfl, rfl⟩ rfl rfl rfl rfl rfl (by kernel_rfl) Try.func5 (by kernel_rfl)
    (of_decide_eq_true (by kernel_rfl)) (by unfold Func.isWrapper; first | (rw [if_pos (by decide +kernel)]; kernel_rfl) | (rw [if_neg (by decide +kernel)]; exact ⟨rfl, rfl⟩))
    (fun os started H enc _ => lifted os started H enc)
end Go.Proofs.Ytocedkdgmhegeaa.ItemChains

namespace Go.Proofs.Ytocedkdgmhegeaa
theorem itemChains_holds : Rows.ItemChainsSaid := ItemChains.over
#print axioms itemChains_holds
end Go.Proofs.Ytocedkdgmhegeaa
