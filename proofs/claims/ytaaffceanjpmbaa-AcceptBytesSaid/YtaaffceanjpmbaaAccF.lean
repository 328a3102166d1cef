/-
  THE PROGRAM's ACCEPTOR: Load of the bytes of an acceptor as it may be.
-/
import Derived.Test.YtaaffceanjpmbaaAccE
import Derived.Test.YtaaffceanjpmbaaPackQ
import Derived.Test.YtaaffceanjpmbaaItemC
import Derived.Test.YtaaffceanjpmbaaItemA
namespace Go.Proofs.Ytaaffceanjpmbaa
open Go.RowKit

theorem only_grown {p : Nat} {w w' : World} (h : Only (· = p) w w') : w.grownBy w' (some p) := ⟨h.os, h.tape, h.output, h.size, fun k hk hne => h.block k hk (fun e => hne (by rw [e]))⟩
theorem AccB.grown {T : TypeId} {w w' : World} {p h : Nat} {kv cv : Value} {s : AccV} (hA : AccB T w p kv cv s) (hg : w.grownBy w' (some h)) (hne : p ≠ h) : AccB T w' p kv cv s := (hg.block p hA.lt (fun e => hne (Option.some.inj e))).trans hA
theorem AccB.hasd {T : TypeId} {w : World} {p : Nat} {kv cv : Value} {s : AccV} (h : AccB T w p kv cv s) (b : Bool) : AccB T (w.setCell ⟨p, 7, none⟩ (.bool b)) p kv cv ⟨s.n, s.ke, s.K, ⟨s.v.pr, s.v.pn, s.v.ar, s.v.an, b, s.v.ce, s.v.C⟩⟩ ∧ Only (· = p) w (w.setCell ⟨p, 7, none⟩ (.bool b)) := by
  refine ⟨?_, Only.set p 7 w _⟩
  show _ = _
  rw [heap_setCell_same _ _ _ _ _ _ h]
  rfl
theorem AccB.accd {T : TypeId} {w : World} {p : Nat} {kv cv : Value} {s : AccV} (h : AccB T w p kv cv s) (r k : Int) :
    AccB T ((w.setCell ⟨p, 5, none⟩ (.int .i64 r)).setCell ⟨p, 6, none⟩ (.int .i64 k)) p kv cv ⟨s.n, s.ke, s.K, ⟨s.v.pr, s.v.pn, r, k, s.v.has, s.v.ce, s.v.C⟩⟩ ∧ Only (· = p) w ((w.setCell ⟨p, 5, none⟩ (.int .i64 r)).setCell ⟨p, 6, none⟩ (.int .i64 k)) := by
  refine ⟨?_, (Only.set p 5 w _).trans (Only.set p 6 _ _)⟩
  show _ = _
  rw [heap_setCell_same _ _ _ _ _ _ (heap_setCell_same _ _ _ _ _ _ h)]
  rfl
theorem AccB.chained {T : TypeId} {w : World} {p : Nat} {kv cv cv' : Value} {s : AccV} (h : AccB T w p kv cv s) (ce : Int) (C : List Int) :
    AccB T (chainW w p 8 ce cv') p kv cv' ⟨s.n, s.ke, s.K, ⟨s.v.pr, s.v.pn, s.v.ar, s.v.an, s.v.has, ce, C⟩⟩ ∧ Only (· = p) w (chainW w p 8 ce cv') :=
  ⟨by show _ = _; rw [chainW_row h]; simp only [Nat.reduceAdd, List.setIfInBounds_toArray, List.set_cons_succ, List.set_cons_zero], chainW_only _ _ _ _ _⟩

theorem vget_put {lo : Nat} (h r k : Nat) (t : List UInt8) (w : World) (hR : RdrL lo w h (some (balBytes r k ++ t))) (hr : r ≤ 1099511627776) (hk : k ≤ 4) (hl : (balBytes r k ++ t).length ≤ 1000) :
    Calls Try.prog 47 #[.pointer (some ⟨h, 0, none⟩)] w fun e w' => e = .returned (.agg #[.int .i64 r, .int .i64 k]) ∧ Hid (RdrL lo w' h (some t) ∧ w.grownBy w' (some h)) := by
  have H := vget_any h _ w hR (by intro l e; cases e; omega)
  rw [getBal_put r k hr hk t] at H
  exact H.mono fun _ _ ⟨h1, h2, h3⟩ => ⟨h1, h2, h3⟩
theorem ryes_put {lo : Nat} (h : Nat) (b : Bool) (t : List UInt8) (w : World) (hR : RdrL lo w h (some ((if b = true then 1 else 0) :: t))) (hl : t.length ≤ 1000) :
    Calls Try.prog 48 #[.pointer (some ⟨h, 0, none⟩)] w fun e w' => e = .returned (.bool b) ∧ Hid (RdrL lo w' h (some t) ∧ w.grownBy w' (some h)) := by
  have H := ryes_any h _ w hR (by intro l e; cases e; simp; omega)
  have e1 : rYes (some ((if b = true then 1 else 0) :: t)) = (b, some t) := by
    have h1 := num_put 1 (if b = true then 1 else 0) (by split <;> omega) (by split <;> omega) t
    rw [uvarint_bit b] at h1
    unfold rYes
    rw [show (some ((if b = true then (1 : UInt8) else 0) :: t)) = some ([if b = true then 1 else 0] ++ t) from rfl, h1]
    cases b <;> rfl
  rw [e1] at H
  exact H.mono fun _ _ ⟨h1, h2, h3⟩ => ⟨h1, h2, h3⟩
theorem getchain_put (v : Value) (B : Nat) (ep : Int) (L : List Int) (w : World) (hB : Byt w B v (ChainV.bytes ⟨ep, L⟩)) (hBw : B ≤ w.heap.size) (hm : ChainV.may ⟨ep, L⟩) :
    Calls Try.prog 71 #[v] w fun e w' => ∃ a c, e = .returned (.tuple #[.agg #[.int .i64 ep, .slice a L.length c], .int .i64 0]) ∧ Hid (w'.ownsRow w.heap.size 3 1 (.slice a L.length c) L.length (intCells L) ∧ Below w.heap.size w w') := by
  have e := ChainV.got_chain ⟨ep, L⟩ hm
  have hb := ChainV.got_bytes ⟨ep, L⟩
  have hmay : (ChainV.got ⟨ep, L⟩).chain.may := by rw [e]; exact hm
  obtain ⟨hg, hq⟩ := goodC_put progC_wide _ hmay
  rw [hb] at hg hq
  have hlen := chainBytes_len hm
  refine (getchain_good v B _ w hB hBw (by omega) hg).mono fun x w' ⟨v', h1, h2, h3⟩ => ?_
  rw [hq] at h1 h2
  have e1 : (((ChainV.got ⟨ep, L⟩).ep : Nat) : Int) = ep := congrArg ChainV.epoch e
  have e2 : ofNats (ChainV.got ⟨ep, L⟩).nodes = L := congrArg ChainV.nodes e
  have e3 : (ChainV.got ⟨ep, L⟩).nodes.length = L.length := by have := congrArg List.length e2; simpa [ofNats] using this
  rw [e1] at h1
  rw [e2, e3] at h2
  obtain ⟨a, c, rfl⟩ := own_shape h2
  exact ⟨a, c, h1, h2, h3⟩

set_option maxRecDepth 100000 in
set_option maxHeartbeats 2000000 in
theorem agetchain_r {lo : Nat} (h : Nat) (ep : Int) (L : List Int) (t : List UInt8) (w : World) (hR : RdrL lo w h (some (chainText ep L ++ t))) (hm : ChainV.may ⟨ep, L⟩) (hl : t.length ≤ 1000) :
    Calls Try.prog 46 #[.pointer (some ⟨h, 0, none⟩)] w fun e w' => ∃ a c, e = .returned (.agg #[.int .i64 ep, .slice a L.length c]) ∧ Hid (w'.ownsRow w.heap.size 3 1 (.slice a L.length c) L.length (intCells L) ∧ RdrL lo w' h (some t) ∧ w.grownBy w' (some h)) := by
  have hlen := chainBytes_len hm
  have htl := chainText_len hm
  obtain ⟨W, hW⟩ : ∃ W, W = w.alloc (.cells #[.int .i64 0, .slice none 0 0] 28) := ⟨_, rfl⟩
  have hsW : W.heap.size = w.heap.size + 1 := by rw [hW]; simp
  have hlt := hR.lt
  have hbW : Below w.heap.size w W := by rw [hW]; exact (Below.refl _ w).alloc (Nat.le_refl _) _
  have rW := hR.below hbW
  have cW : ChT W w.heap.size 0 (.slice none 0 0) := by rw [hW]; exact ChT.fresh w _ _
  have H1 := rtext_any h _ 9223372036854775807 9223372036854775807 (by omega) (.inr rfl) W rW (by intro l e; cases e; rw [List.length_append]; omega)
  obtain ⟨X, hX⟩ : ∃ X, X = ChainV.bytes ⟨ep, L⟩ := ⟨_, rfl⟩
  have e1 : rText 9223372036854775807 (some (chainText ep L ++ t)) = (X, some t) := by
    unfold chainText
    rw [← hX, List.append_assoc]
    exact rText_put _ X t (by rw [hX]; omega) (by decide)
  rw [e1] at H1
  have HT := Lib.hid H1
  have HCV : Hid (∀ u : World, ∃ c u', (convert 9 42 (.string ⟨X.toArray⟩)).run Try.prog u = .ok (.slice (some ⟨u.heap.size, 0, none⟩) X.length c) u' ∧ Hid (Byt u' u'.heap.size (.slice (some ⟨u.heap.size, 0, none⟩) X.length c) X ∧ Below u.heap.size u u')) := fun u => by
    obtain ⟨c, u', q1, q2, _, q4⟩ := conv_bytes u X (by rw [hX]; unfold maxLen; omega)
    exact ⟨c, u', q1, q2, q4⟩
  have HG : Hid (∀ u v, Byt u u.heap.size v X → Calls Try.prog 71 #[v] u fun e w' => ∃ a c, e = .returned (.tuple #[.agg #[.int .i64 ep, .slice a L.length c], .int .i64 0]) ∧ Hid (w'.ownsRow u.heap.size 3 1 (.slice a L.length c) L.length (intCells L) ∧ Below u.heap.size u w')) := fun u v hu =>
    getchain_put v u.heap.size ep L u (by rw [← hX]; exact hu) (Nat.le_refl _) hm
  have CW := Lib.hid cW
  have HB := Lib.hid hbW
  have HW := Lib.hid hW
  have HSW := Lib.hid hsW
  clear hR rW H1 hm hX e1 hW hbW cW hlen htl hsW
  go_enter Try.func46, Try.ntmps46
  go_wp2_with fail
  rw [← HW.out]
  refine HT.out.mono ?_
  rintro e w1 ⟨rfl, R1, G1⟩
  have C1 : Hid (ChT w1 w.heap.size 0 (.slice none 0 0)) := (G1.block _ CW.out.lt (fun e => by have := Option.some.inj e; omega)).trans CW.out
  obtain ⟨cc, w2, hcv, H2⟩ := HCV.out w1
  have hs1 := G1.size
  have hsw := HSW.out
  have C2 := Lib.hid (C1.out.keep H2.out.2 C1.out.lt)
  have R2 := Lib.hid (R1.below H2.out.2)
  have HG2 := Lib.hid (HG.out w2 _ H2.out.1)
  have GG := Lib.hid G1
  clear R1 G1 HT HCV HG
  go_wp2_with fail
  refine HG2.out.mono ?_
  rintro e w3 ⟨a, c, rfl, H3⟩
  have hs2 := H2.out.2.size
  have hs3 := H3.out.2.size
  have C3 := Lib.hid (C2.out.keep H3.out.2 C2.out.lt)
  have b4 : Below w3.heap.size w3 (w3.alloc (.cells #[.int .i64 ep, .slice a L.length c] 28)) := (Below.refl _ w3).alloc (Nat.le_refl _) _
  have C4 := Lib.hid (C3.out.keep b4 C3.out.lt)
  have R4 := Lib.hid ((R2.out.below H3.out.2).below b4)
  obtain ⟨f0, f1, f2, f3⟩ := C4.out.cells
  clear hcv
  go_wp2
  obtain ⟨k1, k2⟩ := C4.out.stored (ep' := ep) (v' := .slice a L.length c)
  obtain ⟨e0, e1, _, _⟩ := k1.cells
  unfold chW at e0 e1
  have o4 : (w3.alloc (.cells #[.int .i64 ep, .slice a L.length c] 28)).ownsRow w1.heap.size 3 1 (.slice a L.length c) L.length (intCells L) := own_base (own_below H3.out.1 b4) hs2
  refine bodyPost_ret (v := .agg #[.int .i64 ep, .slice a L.length c]) (by simp [results, Try.results46, go_sem, e0, e1]) rfl ⟨a, c, rfl, own_base (own_only o4 k2 (by omega)) (by omega), ?_, ?_⟩
  · exact R4.out.other (k := w.heap.size) (only_grown k2) (by omega) (.inr hlt)
  · have g1 : w.grownBy w1 (some h) := ⟨GG.out.os.trans HB.out.os, GG.out.tape.trans HB.out.tape, GG.out.output.trans HB.out.output, Nat.le_trans HB.out.size GG.out.size, fun k hk hne => (GG.out.block k (Nat.lt_of_lt_of_le hk HB.out.size) hne).trans (HB.out.block k hk)⟩
    exact grown_mix (grown_mix g1 (below_grown2 ((H2.out.2.trans (H3.out.2.mono hs2)).trans (b4.mono (by omega)))) (fun g e => by cases e)) (only_grown k2) (fun g e => by cases e; omega)

set_option maxRecDepth 100000 in
set_option maxHeartbeats 2000000 in
theorem amayvote_r {w : World} {p : Nat} {kv cv : Value} {s : AccV} (hA : AccR 63 w p kv cv s) (hok : s.ok) :
    Calls Try.prog 50 #[.pointer (some ⟨p, 0, none⟩)] w fun e w' => e = .returned (.bool true) ∧ Below w.heap.size w w' := by
  have FX0 : Hid (∀ u, Below w.heap.size w u → AccR 63 u p kv cv s) := fun u hu => hA.on hu
  have P0 : Below w.heap.size w w.drew := (Below.refl _ _).drew
  obtain ⟨hx, hhx⟩ : ∃ b, b = s.v.has := ⟨_, rfl⟩
  have FX : Hid (∀ u, Below w.heap.size w u → u.cell? ⟨p, 0, none⟩ = some (.int .i64 s.n) ∧ u.cell? ⟨p, 1, none⟩ = some (.int .i64 s.ke) ∧ u.cell? ⟨p, 2, none⟩ = some kv ∧ u.cell? ⟨p, 3, none⟩ = some (.int .i64 s.v.pr) ∧ u.cell? ⟨p, 4, none⟩ = some (.int .i64 s.v.pn) ∧
    u.cell? ⟨p, 5, none⟩ = some (.int .i64 s.v.ar) ∧ u.cell? ⟨p, 6, none⟩ = some (.int .i64 s.v.an) ∧ u.cell? ⟨p, 7, none⟩ = some (.bool hx) ∧ u.cell? ⟨p, 8, none⟩ = some (.int .i64 s.v.ce) ∧ u.cell? ⟨p, 9, none⟩ = some cv) := fun u hu => by rw [hhx]; exact (FX0.out u hu).b.cells
  cases hx with
  | false =>
    clear hhx hA hok FX0
    go_enter Try.func50, Try.ntmps50
    go_wp2_with fail
    refine region_quiet (fun v => Below w.heap.size w v) (by kernel_rfl) (by kernel_rfl) P0 ?_
    repeat (first
      | go_big_quiet_skip
      | (go_big_quiet_want
         (first
          | (refine quiet_run (v := ?_) ?_ ?_; rotate_left; (intro u hu; obtain ⟨c0, c1, c2, c3, c4, c5, c6, c7, c8, c9⟩ := FX.out u hu; go_simp <;> with_reducible rfl); simp only [Act.put, List.setIfInBounds_toArray, List.set_cons_zero, List.set_cons_succ]; go_big_quiet_on)
  )))
    refine wpQuiet_nil ?_
    intro w4 h4
    have C4 := Lib.hid h4
    clear P0 FX h4
    go_wp2
    go_returns
    exact ⟨rfl, C4.out⟩
  | true =>
    have HN : Hid (∀ u, Below w.heap.size w u → Calls Try.prog 36 #[.agg #[.int .i64 s.ke, kv], .agg #[.int .i64 s.v.ce, cv], .int .i64 s.n] u fun e w' => e = .returned (.bool true) ∧ Below u.heap.size u w') := fun u hu =>
      chnext_r s.ke kv s.K s.v.ce cv s.v.C s.n u.heap.size u (FX0.out u hu).k.ints (FX0.out u hu).c.ints (Nat.le_refl _) (decide_eq_true (hok.yes hhx.symm))
    have hle := hok.le
    obtain ⟨c, hc⟩ : ∃ c, cmpV s.v.ar s.v.an s.v.pr s.v.pn = c := ⟨_, rfl⟩
    have HC : Hid (∀ u, Calls Try.prog 54 #[.agg #[.int .i64 s.v.ar, .int .i64 s.v.an], .agg #[.int .i64 s.v.pr, .int .i64 s.v.pn]] u fun e w' => e = .returned (.int .i64 c) ∧ Below u.heap.size u w') := fun u => vcmp_r _ _ _ _ u hc
    rw [hc] at hle
    have hcd : Hid (decide (c ≤ 0) = true) := decide_eq_true hle
    clear hhx hA hok FX0 hc hle
    go_enter Try.func50, Try.ntmps50
    go_wp2_with fail
    refine region_quiet (fun v => Below w.heap.size w v) (by kernel_rfl) (by kernel_rfl) P0 ?_
    repeat (first
      | go_big_quiet_skip
      | (go_big_quiet_want
         (first
          | (refine quiet_run (v := ?_) ?_ ?_; rotate_left; (intro u hu; obtain ⟨c0, c1, c2, c3, c4, c5, c6, c7, c8, c9⟩ := FX.out u hu; go_simp <;> with_reducible rfl); simp only [Act.put, List.setIfInBounds_toArray, List.set_cons_zero, List.set_cons_succ]; go_big_quiet_on)
          | (refine quiet_enter 36 _ ?_ (fun u hu => (HN.out u hu).mono fun e u' ⟨he, hb⟩ => ⟨he, hu.trans (hb.mono hu.size)⟩) ?_; (focus (intro u; first | (go_simp; done) | (go_simp; with_reducible rfl))); simp only [Act.put, List.setIfInBounds_toArray, List.set_cons_zero, List.set_cons_succ]; go_big_quiet_on)
          | (refine quiet_enter 54 _ ?_ (fun u hu => (HC.out u).mono fun e u' ⟨he, hb⟩ => ⟨he, hu.trans (hb.mono hu.size)⟩) ?_; (focus (intro u; first | (go_simp; done) | (go_simp; with_reducible rfl))); simp only [Act.put, List.setIfInBounds_toArray, List.set_cons_zero, List.set_cons_succ]; go_big_quiet_on))))
    refine wpQuiet_nil ?_
    intro w4 h4
    have C4 := Lib.hid h4
    clear P0 FX h4
    go_wp2
    go_returns
    exact ⟨ret_bool (by first | exact hcd.out | simp [hcd.out]), C4.out⟩

/-- What a call of Load has made so far: the acceptor, the reader. -/
structure LoadT (w0 : World) (p h lo : Nat) (kv cv : Value) (s : AccV) (st : List UInt8) (w : World) : Prop where
  a : AccB 63 w p kv cv s
  r : RdrL lo w h (some st)
  bel : Below w0.heap.size w0 w
  low : w0.heap.size ≤ p ∧ p < lo ∧ p < h
section
variable {w0 w w' : World} {p h lo : Nat} {kv cv kv' cv' : Value} {s s' : AccV} {st t : List UInt8}
theorem LoadT.read (H : LoadT w0 p h lo kv cv s st w) (hr : RdrL lo w' h (some t)) (hg : w.grownBy w' (some h)) : LoadT w0 p h lo kv cv s t w' :=
  ⟨H.a.grown hg (by have := H.low; omega), hr, H.bel.grown hg H.bel.size (fun k hk => by cases hk; have := H.low; omega), H.low⟩
theorem LoadT.store (H : LoadT w0 p h lo kv cv s st w) (ha : AccB 63 w' p kv' cv' s') (ho : Only (· = p) w w') : LoadT w0 p h lo kv' cv' s' st w' :=
  ⟨ha, H.r.other (only_grown ho) (by have := H.low; omega) (.inl H.low.2.1), ho.below H.bel (fun x hx => by have := H.low; omega) H.bel.size, H.low⟩
theorem LoadT.on (H : LoadT w0 p h lo kv cv s st w) (hb : Below w.heap.size w w') : LoadT w0 p h lo kv cv s st w' := ⟨H.a.on hb, H.r.below hb, H.bel.trans (hb.mono H.bel.size), H.low⟩
end

set_option maxRecDepth 100000 in
set_option maxHeartbeats 8000000 in
theorem aload_in (n : Nat) (h1 : 1 ≤ n) (h5 : n ≤ 5) {s : AccV} (hok : s.ok) (hn : s.n = n) (v : Value) (B : Nat) (w : World) (hB : Byt w B v s.bytes) (hBw : B ≤ w.heap.size) :
    Calls Try.prog 23 #[.int .i64 n, v] w fun e w' => ∃ p, e = .returned (.tuple #[.pointer (some ⟨p, 0, none⟩), .int .i64 0]) ∧ w.heap.size ≤ p ∧ Acc 63 w' p s ∧ Below w.heap.size w w' := by
  have lb := hok.blen
  have HN := Lib.hid (anew_in n h1 h5 w)
  have HP : Hid (∀ u, Below w.heap.size w u → Calls Try.prog 45 #[v] u fun e w' => ∃ h, e = .returned (.pointer (some ⟨h, 0, none⟩)) ∧ u.heap.size ≤ h ∧ RdrL u.heap.size w' h (some s.bytes) ∧ Below u.heap.size u w') := fun u hu =>
    new_any v B _ u (hB.keep (hu.mono hBw)) (Nat.le_trans hBw hu.size) (by omega)
  have hp := mayV_yes.1 hok.p
  have ha := mayV_yes.1 hok.a
  obtain ⟨pr, hpr⟩ : ∃ x : Nat, x = s.v.pr.toNat := ⟨_, rfl⟩
  obtain ⟨pn, hpn⟩ : ∃ x : Nat, x = s.v.pn.toNat := ⟨_, rfl⟩
  obtain ⟨ar, har⟩ : ∃ x : Nat, x = s.v.ar.toNat := ⟨_, rfl⟩
  obtain ⟨an, han⟩ : ∃ x : Nat, x = s.v.an.toNat := ⟨_, rfl⟩
  obtain ⟨t3, ht3⟩ : ∃ t, t = s.v.bytes := ⟨_, rfl⟩
  obtain ⟨t2, ht2⟩ : ∃ t, t = (if s.v.has = true then (1 : UInt8) else 0) :: t3 := ⟨_, rfl⟩
  obtain ⟨t1, ht1⟩ : ∃ t, t = balBytes pr pn ++ t2 := ⟨_, rfl⟩
  have hbs : s.bytes = chainText s.ke s.K ++ t1 := by rw [ht1, ht2, ht3, hpr, hpn]; simp [AccV.bytes, AccV.head]
  have l1 : t1.length ≤ 1000 := by have := congrArg List.length hbs; rw [List.length_append] at this; omega
  have l2 : t2.length ≤ 1000 := by have := congrArg List.length ht1; rw [List.length_append] at this; omega
  have l3 : t3.length ≤ 1000 := by have := congrArg List.length ht2; rw [List.length_cons] at this; omega
  rw [hbs] at HP
  have HGK : Hid (∀ u lo h, RdrL lo u h (some (chainText s.ke s.K ++ t1)) → Calls Try.prog 46 #[.pointer (some ⟨h, 0, none⟩)] u fun e w' => ∃ a c, e = .returned (.agg #[.int .i64 s.ke, .slice a s.K.length c]) ∧ Hid (w'.ownsRow u.heap.size 3 1 (.slice a s.K.length c) s.K.length (intCells s.K) ∧ RdrL lo w' h (some t1) ∧ u.grownBy w' (some h))) := fun u lo h hr => agetchain_r h s.ke s.K t1 u hr hok.may l1
  have HVP : Hid (∀ u lo h, RdrL lo u h (some t1) → Calls Try.prog 47 #[.pointer (some ⟨h, 0, none⟩)] u fun e w' => e = .returned (.agg #[.int .i64 s.v.pr, .int .i64 s.v.pn]) ∧ Hid (RdrL lo w' h (some t2) ∧ u.grownBy w' (some h))) := fun u lo h hr => by
    have e1 : s.v.pr = ((pr : Nat) : Int) := by omega
    have e2 : s.v.pn = ((pn : Nat) : Int) := by omega
    rw [e1, e2]
    exact vget_put h pr pn t2 u (by rw [← ht1]; exact hr) (by omega) (by omega) (by rw [← ht1]; exact l1)
  obtain ⟨hx, hhx⟩ : ∃ b, b = s.v.has := ⟨_, rfl⟩
  have HY : Hid (∀ u lo h, RdrL lo u h (some t2) → Calls Try.prog 48 #[.pointer (some ⟨h, 0, none⟩)] u fun e w' => e = .returned (.bool hx) ∧ Hid (RdrL lo w' h (some t3) ∧ u.grownBy w' (some h))) := fun u lo h hr => by rw [hhx]; exact ryes_put h s.v.has t3 u (by rw [← ht2]; exact hr) l3
  have HE : Hid (∀ u lo h, RdrL lo u h (some []) → Calls Try.prog 49 #[.pointer (some ⟨h, 0, none⟩)] u fun e w' => e = .returned (.int .i64 0) ∧ u = w') := fun u lo h hr => rend_ok h u hr
  have HMK : Hid (∀ u p a c cv, AccR 63 u p (.slice a s.K.length c) cv s → Calls Try.prog 32 #[.pointer (some ⟨p, 0, none⟩), .agg #[.int .i64 s.ke, .slice a s.K.length c]] u fun e w' => e = .returned (.bool true) ∧ Below u.heap.size u w') := fun u p a c cv hr =>
    amayknow_r hr.b s.ke _ s.K u.heap.size hr.k.ints (Nat.le_refl _) (decide_eq_true ⟨hok.may, hok.low⟩)
  have HMV : Hid (∀ u p kv cv, AccR 63 u p kv cv s → Calls Try.prog 50 #[.pointer (some ⟨p, 0, none⟩)] u fun e w' => e = .returned (.bool true) ∧ Below u.heap.size u w') := fun u p kv cv hr => amayvote_r hr hok
  have HOK := Lib.hid hok
  have HNE := Lib.hid hn
  have HT3 := Lib.hid ht3
  have HAR : Hid (s.v.ar = ((ar : Nat) : Int) ∧ s.v.an = ((an : Nat) : Int) ∧ ar ≤ 1099511627776 ∧ an ≤ 4 ∧ balBytes s.v.ar.toNat s.v.an.toNat = balBytes ar an) := by
    refine ⟨by omega, by omega, by omega, by omega, by rw [har, han]⟩
  obtain ⟨va, vn, vc, rfl⟩ : ∃ a n c, v = .slice a n c := by obtain ⟨a, c, h, _⟩ := hB; exact ⟨a, _, c, h⟩
  clear hok hn hB lb hp ha hpr hpn har han ht1 ht2 ht3 hbs l1 l2
  go_enter Try.func23, Try.ntmps23
  go_wp2_with fail
  refine HN.out.mono ?_
  rintro e w1 ⟨p, rfl, hpw, ⟨kv0, cv0, A1⟩, B1⟩
  have HCV : Hid (∀ u, RowI u cv0 []) := fun u => by obtain ⟨ao, cap, q1, q2, q3, q4, q5⟩ := A1.c; exact ⟨ao, cap, q1, q2, q3, q4, fun e => absurd rfl e⟩
  have HA1 := Lib.hid A1
  have HB1 := Lib.hid B1
  clear A1 B1 HN
  go_wp2_with fail
  refine (HP.out _ HB1.out).mono ?_
  rintro e w2 ⟨h, rfl, hh, R2, B2⟩
  have hpl := HA1.out.b.lt
  have L2 : Hid (LoadT w p h w1.heap.size kv0 cv0 (AccV.first n) (chainText s.ke s.K ++ t1) w2) := ⟨HA1.out.b.on B2, R2, HB1.out.trans (B2.mono HB1.out.size), hpw, hpl, by omega⟩
  have hls2 := L2.out.r.lt
  have HP2 := Lib.hid (show p < h from by omega)
  clear R2 B2 HP HA1 hpl hh
  go_wp2_with fail
  refine (HGK.out _ _ _ L2.out.r).mono ?_
  rintro e w3 ⟨a3, c3, rfl, H3⟩
  have L3 := Lib.hid (L2.out.read H3.out.2.1 H3.out.2.2)
  have O3 := Lib.hid (own_base (base := w2.heap.size) (base' := h + 1) H3.out.1 (by omega))
  clear L2 HGK
  obtain ⟨k1, k2⟩ := L3.out.a.known (kv' := .slice a3 s.K.length c3) s.ke s.K
  have L4 := Lib.hid (L3.out.store k1 k2)
  have O4 := Lib.hid (own_only O3.out k2 (by have := HP2.out; omega))
  unfold chainW at L4 O4
  obtain ⟨_, y1, y2, _⟩ := L3.out.a.cells
  have z1 := L3.out.a.free 1
  have z2 := L3.out.a.free 2
  clear k1 k2
  go_wp2_with fail
  refine (HVP.out _ _ _ L4.out.r).mono ?_
  rintro e w5 ⟨rfl, H5⟩
  have L5 := Lib.hid (L4.out.read H5.out.1 H5.out.2)
  have O5 := Lib.hid (own_grown O4.out H5.out.2 (Nat.lt_succ_self _))
  obtain ⟨k1, k2⟩ := L5.out.a.promised s.v.pr s.v.pn
  have L6 := Lib.hid (L5.out.store k1 k2)
  have O6 := Lib.hid (own_only O5.out k2 (by have := HP2.out; omega))
  clear L3 O3 L4 O4 y1 y2 z1 z2 k1 k2 HVP
  obtain ⟨_, _, _, y3, y4, _⟩ := L5.out.a.cells
  have z3 := L5.out.a.free 3
  have z4 := L5.out.a.free 4
  go_wp2_with fail
  refine (HY.out _ _ _ L6.out.r).mono ?_
  rintro e w7 ⟨rfl, H7⟩
  have L7 := Lib.hid (L6.out.read H7.out.1 H7.out.2)
  have O7 := Lib.hid (own_grown O6.out H7.out.2 (Nat.lt_succ_self _))
  obtain ⟨k1, k2⟩ := L7.out.a.hasd hx
  have L8 := Lib.hid (L7.out.store k1 k2)
  have O8 := Lib.hid (own_only O7.out k2 (by have := HP2.out; omega))
  clear L5 O5 L6 O6 y3 y4 z3 z4 k1 k2 HY
  obtain ⟨_, _, _, _, _, _, _, y7, _⟩ := L7.out.a.cells
  have z7 := L7.out.a.free 7
  have HHX := Lib.hid hhx
  clear hhx
  cases hx with
  | false =>
    have hv := HOK.out.no HHX.out.symm
    have ht : t3 = [] := by rw [HT3.out, VoteV.bytes, ← HHX.out]; rfl
    have es : (⟨n, s.ke, s.K, ⟨s.v.pr, s.v.pn, 0, 0, false, 0, []⟩⟩ : AccV) = s := by rw [← hv, ← HNE.out]
    have hC : s.v.C = [] := by rw [hv]
    have LF : Hid (LoadT w p h w1.heap.size (.slice a3 s.K.length c3) cv0 s [] (w7.setCell ⟨p, 7, none⟩ (.bool false))) := by
      have h8 := L8.out
      rw [ht] at h8
      have h9 : LoadT w p h w1.heap.size (.slice a3 s.K.length c3) cv0 ⟨n, s.ke, s.K, ⟨s.v.pr, s.v.pn, 0, 0, false, 0, []⟩⟩ [] (w7.setCell ⟨p, 7, none⟩ (.bool false)) := h8
      rw [es] at h9
      exact h9
    have RF : Hid (∀ u, Below (w7.setCell ⟨p, 7, none⟩ (.bool false)).heap.size (w7.setCell ⟨p, 7, none⟩ (.bool false)) u → AccR 63 u p (.slice a3 s.K.length c3) cv0 s) := fun u hu => ⟨LF.out.a.on hu, RowI.own (rowOn O8.out hu), by rw [hC]; exact HCV.out u⟩
    obtain ⟨_, x1, x2, _, _, _, _, x7, _⟩ := LF.out.a.cells
    rw [← HHX.out] at x7
    clear hv ht es hC L8 HAR
    go_wp2_with fail
    refine (HE.out _ _ _ LF.out.r).mono ?_
    rintro e w8 ⟨rfl, rfl⟩
    go_wp2_with fail
    refine (HMK.out _ _ _ _ _ (RF.out _ (Below.refl _ _))).mono ?_
    rintro e w9 ⟨rfl, B9⟩
    have HB9 := Lib.hid B9
    clear B9 x1 x2 x7
    go_wp2_with fail
    refine (HMV.out _ _ _ _ (RF.out _ HB9.out)).mono ?_
    rintro e wA ⟨rfl, BA⟩
    have HBA := Lib.hid (HB9.out.trans (BA.mono HB9.out.size))
    clear BA
    go_wp2
    go_returns
    exact ⟨p, rfl, hpw, ⟨_, _, RF.out _ HBA.out⟩, LF.out.bel.trans (HBA.out.mono LF.out.bel.size)⟩
  | true =>
    have hN := HOK.out.yes HHX.out.symm
    have hmc := hN.2.1
    have ht : t3 = balBytes ar an ++ (chainText s.v.ce s.v.C ++ []) := by rw [HT3.out, VoteV.bytes, ← HHX.out, if_pos rfl, HAR.out.2.2.2.2, List.append_nil]
    have l4 := l3
    rw [ht] at l4
    have es : (⟨n, s.ke, s.K, ⟨s.v.pr, s.v.pn, s.v.ar, s.v.an, true, s.v.ce, s.v.C⟩⟩ : AccV) = s := by rw [HHX.out, ← HNE.out]
    have HVA : Hid (∀ u lo h, RdrL lo u h (some t3) → Calls Try.prog 47 #[.pointer (some ⟨h, 0, none⟩)] u fun e w' => e = .returned (.agg #[.int .i64 s.v.ar, .int .i64 s.v.an]) ∧ Hid (RdrL lo w' h (some (chainText s.v.ce s.v.C ++ [])) ∧ u.grownBy w' (some h))) := fun u lo h hr => by
      rw [HAR.out.1, HAR.out.2.1]
      exact vget_put h ar an _ u (by rw [← ht]; exact hr) HAR.out.2.2.1 HAR.out.2.2.2.1 l4
    have HGC : Hid (∀ u lo h, RdrL lo u h (some (chainText s.v.ce s.v.C ++ [])) → Calls Try.prog 46 #[.pointer (some ⟨h, 0, none⟩)] u fun e w' => ∃ a c, e = .returned (.agg #[.int .i64 s.v.ce, .slice a s.v.C.length c]) ∧ Hid (w'.ownsRow u.heap.size 3 1 (.slice a s.v.C.length c) s.v.C.length (intCells s.v.C) ∧ RdrL lo w' h (some []) ∧ u.grownBy w' (some h))) := fun u lo h hr => agetchain_r h s.v.ce s.v.C [] u hr hmc (by simp)
    have ES := Lib.hid es
    clear hN hmc ht l4 es
    go_wp2_with fail
    refine (HVA.out _ _ _ L8.out.r).mono ?_
    rintro e w9 ⟨rfl, H9⟩
    have L9 := Lib.hid (L8.out.read H9.out.1 H9.out.2)
    have O9 := Lib.hid (own_grown O8.out H9.out.2 (Nat.lt_succ_self _))
    obtain ⟨k1, k2⟩ := L9.out.a.accd s.v.ar s.v.an
    have LA := Lib.hid (L9.out.store k1 k2)
    have OA := Lib.hid (own_only O9.out k2 (by have := HP2.out; omega))
    clear L7 O7 L8 O8 y7 z7 k1 k2 HVA
    obtain ⟨_, _, _, _, _, y5, y6, _⟩ := L9.out.a.cells
    have z5 := L9.out.a.free 5
    have z6 := L9.out.a.free 6
    go_wp2_with fail
    refine (HGC.out _ _ _ LA.out.r).mono ?_
    rintro e wB ⟨aC, cC, rfl, HB⟩
    have LB := Lib.hid (LA.out.read HB.out.2.1 HB.out.2.2)
    have OB := Lib.hid (own_grown OA.out HB.out.2.2 (Nat.lt_succ_self _))
    have QB := Lib.hid (own_base (base := ((w9.setCell ⟨p, 5, none⟩ (.int .i64 s.v.ar)).setCell ⟨p, 6, none⟩ (.int .i64 s.v.an)).heap.size) (base' := h + 1) HB.out.1 (by have := LA.out.r.lt; omega))
    obtain ⟨k1, k2⟩ := LB.out.a.chained (cv' := .slice aC s.v.C.length cC) s.v.ce s.v.C
    have lc0 := LB.out.store k1 k2
    have OC := Lib.hid (own_only OB.out k2 (by have := HP2.out; omega))
    have QC := Lib.hid (own_only QB.out k2 (by have := HP2.out; omega))
    clear L9 O9 LA OA OB QB y5 y6 z5 z6 k1 k2 HGC
    obtain ⟨_, _, _, _, _, _, _, _, y8, y9⟩ := LB.out.a.cells
    have z8 := LB.out.a.free 8
    have z9 := LB.out.a.free 9
    unfold chainW at lc0 OC QC
    have LC : Hid (LoadT w p h w1.heap.size (.slice a3 s.K.length c3) (.slice aC s.v.C.length cC) s [] ((wB.setCell ⟨p, 8, none⟩ (.int .i64 s.v.ce)).setCell ⟨p, 9, none⟩ (.slice aC s.v.C.length cC))) := by
      have h9 : LoadT w p h w1.heap.size (.slice a3 s.K.length c3) (.slice aC s.v.C.length cC) ⟨n, s.ke, s.K, ⟨s.v.pr, s.v.pn, s.v.ar, s.v.an, true, s.v.ce, s.v.C⟩⟩ [] ((wB.setCell ⟨p, 8, none⟩ (.int .i64 s.v.ce)).setCell ⟨p, 9, none⟩ (.slice aC s.v.C.length cC)) := lc0
      rw [ES.out] at h9
      exact h9
    clear lc0 LB
    obtain ⟨wF, hwF⟩ : ∃ u, u = (wB.setCell ⟨p, 8, none⟩ (.int .i64 s.v.ce)).setCell ⟨p, 9, none⟩ (.slice aC s.v.C.length cC) := ⟨_, rfl⟩
    rw [← hwF] at LC OC QC
    have RF : Hid (∀ u, Below wF.heap.size wF u → AccR 63 u p (.slice a3 s.K.length c3) (.slice aC s.v.C.length cC) s) := fun u hu => ⟨LC.out.a.on hu, RowI.own (rowOn OC.out hu), RowI.own (rowOn QC.out hu)⟩
    have HWF := Lib.hid hwF
    obtain ⟨_, x1, x2, _⟩ := LC.out.a.cells
    rw [hwF] at x1 x2
    clear HAR hwF
    go_wp2_with fail
    rw [← HWF.out]
    refine (HE.out _ _ _ LC.out.r).mono ?_
    rintro e w8 ⟨rfl, rfl⟩
    clear x1 x2 y8 y9 z8 z9
    obtain ⟨_, x1, x2, _⟩ := LC.out.a.cells
    go_wp2_with fail
    refine (HMK.out _ _ _ _ _ (RF.out _ (Below.refl _ _))).mono ?_
    rintro e wG ⟨rfl, B9⟩
    have HB9 := Lib.hid B9
    clear B9 x1 x2
    go_wp2_with fail
    refine (HMV.out _ _ _ _ (RF.out _ HB9.out)).mono ?_
    rintro e wH ⟨rfl, BA⟩
    have HBA := Lib.hid (HB9.out.trans (BA.mono HB9.out.size))
    clear BA
    go_wp2
    go_returns
    exact ⟨p, rfl, hpw, ⟨_, _, RF.out _ HBA.out⟩, LC.out.bel.trans (HBA.out.mono LC.out.bel.size)⟩
end Go.Proofs.Ytaaffceanjpmbaa
