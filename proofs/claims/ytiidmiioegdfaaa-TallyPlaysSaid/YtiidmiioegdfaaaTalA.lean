/-
  THE PROGRAM's COUNT, its small calls: Most, the sets, isMajority, hasNode, Ready, Done, copyOf, Chain, mayChain, mayCount; of none. For counts as they may be; chains of at most a million nodes.
-/
import Derived.Test.YtiidmiioegdfaaaTalV
import Derived.Test.YtiidmiioegdfaaaAccA
import Derived.Test.YtiidmiioegdfaaaChainA
namespace Go.Proofs.Ytiidmiioegdfaaa
open Go.RowKit Go.Maps

/-- How many are a majority, by the program and by the reference. -/
theorem most_in {n : Int} (h1 : 1 ≤ n) (h2 : n ≤ 9223372036854775807) : wrap64 (wrap64 (n.tdiv 2) + 1) = mostV n := by
  have e : n.tdiv 2 = n / 2 := Int.tdiv_eq_ediv_of_nonneg (by omega)
  rw [e, mostV, if_neg (by omega), show wrap64 (n / 2) = n / 2 from IntWalk.wrap64_in _ (by omega)]
  exact IntWalk.wrap64_in _ (by omega)
set_option maxHeartbeats 1000000 in
theorem tymost_r (n : Int) (w : World) (h : n ≤ 9223372036854775807) {R : Int} (hR : mostV n = R) :
    Calls Try.prog 12 #[.int .i64 n] w fun e w' => e = .returned (.int .i64 R) ∧ w = w' := by
  by_cases h1 : n < 1
  · obtain rfl : R = 0 := by rw [← hR, mostV, if_pos h1]
    clear hR h
    go_enter Try.func12, Try.ntmps12
    go_wp2
    go_returns
    exact ⟨rfl, rfl⟩
  · have HR : Hid (wrap64 (wrap64 (n.tdiv 2) + 1) = R) := (most_in (by omega) h).trans hR
    clear hR h
    go_enter Try.func12, Try.ntmps12
    go_wp2
    go_returns
    exact ⟨ret_num HR.out, rfl⟩
set_option maxHeartbeats 1000000 in
theorem rymost_r (n : Int) (w : World) (h : n ≤ 9223372036854775807) {R : Int} (hR : mostV n = R) :
    Calls Try.prog 13 #[.int .i64 n] w fun e w' => e = .returned (.int .i64 R) ∧ w = w' := by
  by_cases h1 : n < 1
  · obtain rfl : R = 0 := by rw [← hR, mostV, if_pos h1]
    clear hR h
    go_enter Try.func13, Try.ntmps13
    go_wp2
    go_returns
    exact ⟨rfl, rfl⟩
  · have HR : Hid (wrap64 (wrap64 (n.tdiv 2) + 1) = R) := (most_in (by omega) h).trans hR
    clear hR h
    go_enter Try.func13, Try.ntmps13
    go_wp2
    go_returns
    exact ⟨ret_num HR.out, rfl⟩
/-- With one more. -/
def addL (P : List Int) (x : Int) : List Int := if x ∈ P then P else P ++ [x]
theorem ty_zero_unit (w : World) : (zeroValue 83).run Try.prog w = .ok (.agg #[]) w := by kernel_rfl
attribute [local go_sem] Oper.semAt_some
set_option maxHeartbeats 1000000 in
set_option maxRecDepth 100000 in
theorem tyadd_r {w : World} {b : Nat} {P : List Int} (hS : SetB w b P) {x : Int} (hx : 0 ≤ x ∧ x < 5) (hP : P.length ≤ 1000) {R : Bool} (hR : (!decide (x ∈ P)) = R) :
    Calls Try.prog 32 #[.map (some b), .int .i64 x] w fun e w' => e = .returned (.bool R) ∧ Hid (SetB w' b (addL P x) ∧ Only (· = b) w w') := by
  have HR := Lib.hid hR
  have HS := Lib.hid hS
  have hl := hS.lt
  obtain ⟨D, hown, hsz, hhas⟩ := hS
  have hwf := five_wf hx
  have hkey : keyOf Try.prog 3 (.int .i64 x) = some (.int .i64 x) := keyOf_int_mk Try.underlying3 hwf
  have HT : Hid (Tidy D) := hown.tidy (int_keyed Try.underlying3)
  have HSZ := Lib.hid hsz
  have HH := Lib.hid hhas
  have HX := Lib.hid hx
  have HW := Lib.hid hwf
  have e1 := hhas x hwf
  obtain ⟨d, hd⟩ : ∃ d, d = decide (x ∈ P) := ⟨_, rfl⟩
  rw [← hd] at e1 HR
  have HD := Lib.hid hd
  have HOW := Lib.hid hown
  have HP := Lib.hid hP
  clear hR hsz hhas hx hwf hd
  obtain ⟨W, hW⟩ : ∃ W, W = w.alloc (.cells #[] 83) := ⟨_, rfl⟩
  have HB : Hid (Below w.heap.size w W) := by rw [hW]; exact (Below.refl _ w).alloc (Nat.le_refl _) _
  have hown2 : W.ownsMap Try.prog 3 (unitElem (H := Unit)) b P.length D := by rw [hW]; exact hown.alloc _
  have hn : P.length < maxLen := by unfold maxLen; omega
  clear hP
  go_enter Try.func32, Try.ntmps32
  go_wp2_with (first
    | (at_lookup; refine wpList_lookup_own_unit _ rfl _ _ 66 rfl 3 83 (int_keyed Try.underlying3) Try.underlying66 (ty_zero_unit _) b P.length D rfl hown _ _ rfl hkey ?_; rw [e1])
    | (at_mapUpdate; (try rw [← hW]); refine wpList_mapUpdate_own _ rfl _ _ _ 66 rfl 3 83 (int_keyed Try.underlying3) Try.underlying66 _ b P.length D rfl hown2 hn _ _ _ rfl rfl hkey _ [] unitElem_mk ?_; intro w1 hown1 hgrow1))
  go_returns
  refine ⟨ret_bool HR.out, set_put HW.out HT.out HSZ.out HH.out hown1, (Only.of HB.out).then ⟨hgrow1.os, hgrow1.tape, hgrow1.output, hgrow1.size, fun j hj hne => hgrow1.block j hj (fun e => hne (by cases e; rfl))⟩ (fun x _ hx => hx)⟩

set_option maxHeartbeats 1000000 in
theorem tysize_r {w : World} {b : Nat} {P : List Int} (hS : SetB w b P) :
    Calls Try.prog 47 #[.map (some b)] w fun e w' => e = .returned (.int .i64 (P.length : Int)) ∧ w = w' := by
  obtain ⟨D, hown, hsz, hhas⟩ := hS
  have HSZ := Lib.hid hsz
  clear hsz hhas
  go_enter Try.func47, Try.ntmps47
  go_wp2_with (first
    | (at_len; refine wpList_len_own _ rfl _ 66 rfl 3 83 Try.underlying66 _ b P.length D rfl hown ?_))
  go_returns
  exact ⟨ret_num (by rw [HSZ.out]), rfl⟩

set_option maxRecDepth 100000 in
set_option maxHeartbeats 2000000 in
theorem tymaj_r {w : World} {p pm ym : Nat} {cv : Value} {s : TalV} (hT : TalB w p pm ym cv s) (h1 : 1 ≤ s.n) (h5 : s.n ≤ 5) {b : Nat} {L : List Int} (hS : SetB w b L) {R : Bool} (hR : decide (mostV s.n ≤ (L.length : Int)) = R) :
    Calls Try.prog 35 #[.pointer (some ⟨p, 0, none⟩), .map (some b)] w fun e w' => e = .returned (.bool R) ∧ Below w.heap.size w w' := by
  have HZ : Hid (∀ u, Below w.heap.size w u → Calls Try.prog 47 #[.map (some b)] u fun e w' => e = .returned (.int .i64 (L.length : Int)) ∧ Below u.heap.size u w') := fun u hu =>
    (tysize_r (hS.on hu)).mono fun e w' ⟨he, hw⟩ => ⟨he, hw ▸ Below.refl _ _⟩
  obtain ⟨m, hm⟩ : ∃ m, m = mostV s.n := ⟨_, rfl⟩
  obtain ⟨l, hl⟩ : ∃ l, l = (L.length : Int) := ⟨_, rfl⟩
  have HM : Hid (∀ u, Calls Try.prog 12 #[.int .i64 s.n] u fun e w' => e = .returned (.int .i64 m) ∧ Below u.heap.size u w') := fun u =>
    (tymost_r s.n u (by omega) hm.symm).mono fun e w' ⟨he, hw⟩ => ⟨he, hw ▸ Below.refl _ _⟩
  have FX : Hid (∀ u, Below w.heap.size w u → u.cell? ⟨p, 0, none⟩ = some (.int .i64 s.n)) := fun u hu => (hT.on hu).cells.1
  rw [← hm, ← hl] at hR
  rw [← hl] at HZ
  have HR := Lib.hid hR
  have P0 : Below w.heap.size w w.drew := (Below.refl _ _).drew
  have h0 : (0 : Int) < s.n := by omega
  generalize s.n = N at *
  clear hT hS hR hm hl h1 h5
  go_enter Try.func35, Try.ntmps35
  go_wp2_with fail
  refine region_quiet (fun v => Below w.heap.size w v) (by kernel_rfl) (by kernel_rfl) P0 ?_
  repeat (first
    | go_big_quiet_skip
    | (go_big_quiet_want
       (first
        | (refine quiet_run (v := ?_) ?_ ?_; rotate_left; (intro u hu; obtain c0 := FX.out u hu; go_simp <;> with_reducible rfl); simp only [Act.put, List.setIfInBounds_toArray, List.set_cons_zero, List.set_cons_succ]; go_big_quiet_on)
        | (refine quiet_enter 47 _ ?_ (fun u hu => (HZ.out u hu).mono fun e u' ⟨he, hb⟩ => ⟨he, hu.trans (hb.mono hu.size)⟩) ?_; (focus (intro u; first | (go_simp; done) | (go_simp; with_reducible rfl))); simp only [Act.put, List.setIfInBounds_toArray, List.set_cons_zero, List.set_cons_succ]; go_big_quiet_on)
        | (refine quiet_enter 12 _ ?_ (fun u hu => (HM.out u).mono fun e u' ⟨he, hb⟩ => ⟨he, hu.trans (hb.mono hu.size)⟩) ?_; (focus (intro u; first | (go_simp; done) | (go_simp; with_reducible rfl))); simp only [Act.put, List.setIfInBounds_toArray, List.set_cons_zero, List.set_cons_succ]; go_big_quiet_on))))
  refine wpQuiet_nil ?_
  intro w4 h4
  go_wp2
  go_returns
  exact ⟨ret_bool HR.out, h4⟩

set_option maxHeartbeats 1000000 in
theorem tyhas_r {w : World} {p pm ym : Nat} {cv : Value} {s : TalV} (hT : TalB w p pm ym cv s) (x : Int) {R : Bool} (hR : s.seat x = R) :
    Calls Try.prog 30 #[.pointer (some ⟨p, 0, none⟩), .int .i64 x] w fun e w' => e = .returned (.bool R) ∧ w = w' := by
  obtain ⟨c0, _⟩ := hT.cells
  have hR' : decide (0 ≤ x ∧ x < s.n) = R := hR
  generalize s.n = N at *
  clear hT hR
  by_cases h0 : 0 ≤ x
  · have HR : Hid (decide (x < N) = R) := by show _ = _; rw [← hR']; simp [h0]
    clear hR'
    go_enter Try.func30, Try.ntmps30
    go_wp2
    go_returns
    exact ⟨ret_bool HR.out, rfl⟩
  · obtain rfl : R = false := by rw [← hR']; simp [h0]
    clear hR'
    go_enter Try.func30, Try.ntmps30
    go_wp2
    go_returns
    exact ⟨rfl, rfl⟩
set_option maxHeartbeats 1000000 in
theorem tyhas_nil (x : Int) (w : World) :
    Calls Try.prog 30 #[.pointer none, .int .i64 x] w fun e w' => e = .returned (.bool false) ∧ w = w' := by
  go_enter Try.func30, Try.ntmps30
  go_wp2
  go_returns
  exact ⟨rfl, rfl⟩

set_option maxHeartbeats 1000000 in
theorem tyready_r {w : World} {p pm ym : Nat} {cv : Value} {s : TalV} (hT : TalR w p pm ym cv s) (hok : s.ok) {R : Bool} (hR : rdyB s = R) :
    Calls Try.prog 18 #[.pointer (some ⟨p, 0, none⟩)] w fun e w' => e = .returned (.bool R) ∧ Below w.heap.size w w' := by
  have HM := Lib.hid (tymaj_r hT.b hok.n.1 hok.n.2 hT.p hR)
  obtain ⟨_, _, _, c3, c4, _⟩ := hT.b.cells
  clear hT hok hR
  go_enter Try.func18, Try.ntmps18
  go_wp2_with fail
  refine HM.out.mono ?_
  rintro e w1 ⟨rfl, H1⟩
  go_wp2
  go_returns
  exact ⟨by first | rfl | trivial, H1⟩
set_option maxHeartbeats 1000000 in
theorem tyready_nil (w : World) :
    Calls Try.prog 18 #[.pointer none] w fun e w' => e = .returned (.bool false) ∧ w = w' := by
  go_enter Try.func18, Try.ntmps18
  go_wp2
  go_returns
  exact ⟨rfl, rfl⟩

set_option maxHeartbeats 1000000 in
theorem tydone_r {w : World} {p pm ym : Nat} {cv : Value} {s : TalV} (hT : TalR w p pm ym cv s) (hok : s.ok) {R : Bool} (hR : donB s = R) :
    Calls Try.prog 19 #[.pointer (some ⟨p, 0, none⟩)] w fun e w' => e = .returned (.bool R) ∧ Below w.heap.size w w' := by
  have HM := Lib.hid (tymaj_r hT.b hok.n.1 hok.n.2 hT.y hR)
  obtain ⟨_, _, _, c3, c4, _⟩ := hT.b.cells
  clear hT hok hR
  go_enter Try.func19, Try.ntmps19
  go_wp2_with fail
  refine HM.out.mono ?_
  rintro e w1 ⟨rfl, H1⟩
  go_wp2
  go_returns
  exact ⟨by first | rfl | trivial, H1⟩
set_option maxHeartbeats 1000000 in
theorem tydone_nil (w : World) :
    Calls Try.prog 19 #[.pointer none] w fun e w' => e = .returned (.bool false) ∧ w = w' := by
  go_enter Try.func19, Try.ntmps19
  go_wp2
  go_returns
  exact ⟨rfl, rfl⟩

/-- The block in which a slice's row lies. -/
def blkOf : Value → Option Nat
  | .slice (some a) _ _ => some a.block
  | _ => none
/-- A slice's row lies in no block below n. -/
def Fresh (n : Nat) (v : Value) : Prop := ∀ b, blkOf v = some b → n ≤ b
theorem Fresh.mono {n m : Nat} {v : Value} (h : Fresh m v) (hn : n ≤ m) : Fresh n v := fun b hb => Nat.le_trans hn (h b hb)
theorem Fresh.none (n a b : Nat) : Fresh n (.slice none a b) := fun _ h => by cases h
theorem Fresh.own {w : World} {base : Nat} {T : TypeId} {k n : Nat} {v : Value} {cells : List Value} (h : w.ownsRow base T k v n cells) : Fresh base v := by
  rcases h.2 with ⟨rfl, _⟩ | ⟨g, cap, cur, rfl, hg, _⟩
  · exact .none _ _ _
  · intro b hb
    cases hb
    exact hg
theorem slclone_f (v : Value) (L : List Int) (B : Nat) (w : World) (hB : Ints w B v L) (hBw : B ≤ w.heap.size) (hlim : L.length ≤ 1000000) :
    Calls Try.prog 46 #[v] w fun e w' => ∃ a c, e = .returned (.slice a L.length c) ∧ Hid ((RowI w' (.slice a L.length c) L ∧ Fresh w.heap.size (.slice a L.length c)) ∧ Below w.heap.size w w') := by
  have hB' := hB
  obtain ⟨ao, cap, rfl, h1, h2, h3, h4⟩ := hB
  cases ao with
  | some a =>
    refine (slclone_some a _ cap B L w hB' hBw hlim).mono fun e w' ⟨v', he, ho, hb⟩ => ?_
    obtain ⟨a, c, rfl⟩ := own_shape ho
    exact ⟨a, c, he, ⟨RowI.own ho, .own ho⟩, hb⟩
  | none =>
    have hl : L = [] := by
      have := h3 rfl
      exact List.eq_nil_of_length_eq_zero (by omega)
    subst hl
    exact (slclone_none _ cap w).mono fun e w' ⟨he, hw⟩ => ⟨none, 0, he, ⟨RowI.none _, .none _ _ _⟩, hw ▸ Below.refl _ _⟩

set_option maxRecDepth 100000 in
set_option maxHeartbeats 2000000 in
theorem tycopy_r (ep : Int) (v : Value) (L : List Int) (B : Nat) (w : World) (hI : Ints w B v L) (hB : B ≤ w.heap.size) (hlim : L.length ≤ 1000000) :
    Calls Try.prog 29 #[.agg #[.int .i64 ep, v]] w fun e w' => ∃ a c, e = .returned (.agg #[.int .i64 ep, .slice a L.length c]) ∧ Hid ((RowI w' (.slice a L.length c) L ∧ Fresh w.heap.size (.slice a L.length c)) ∧ Below w.heap.size w w') := by
  obtain ⟨a0, c0, rfl⟩ : ∃ a c, v = .slice a L.length c := by obtain ⟨a, c, h, _⟩ := hI; exact ⟨a, c, h⟩
  obtain ⟨m, hm⟩ : ∃ m, m = L.length := ⟨_, rfl⟩
  obtain ⟨W, hW⟩ : ∃ W, W = (w.alloc (.cells #[.int .i64 ep, .slice a0 L.length c0] 26)).alloc (.cells #[.int .i64 0, .slice none 0 0] 26) := ⟨_, rfl⟩
  have hbW : Below w.heap.size w W := by rw [hW]; exact ((Below.refl _ w).alloc (Nat.le_refl _) _).alloc (by simp) _
  have hsW : W.heap.size = w.heap.size + 2 := by rw [hW]; simp
  have cW : ChT W w.heap.size ep (.slice a0 L.length c0) := by rw [hW]; exact (ChT.fresh w _ _).keep ((Below.refl _ _).alloc (Nat.le_refl _) _) (by simp)
  have rW : ChT W (w.heap.size + 1) 0 (.slice none 0 0) := by
    rw [hW]
    have := ChT.fresh (w.alloc (.cells #[.int .i64 ep, .slice a0 L.length c0] 26)) 0 (.slice none 0 0)
    rwa [World.size_alloc] at this
  have HX : Hid (∀ u, Below W.heap.size W u → Calls Try.prog 46 #[.slice a0 L.length c0] u fun e w' => ∃ a c, e = .returned (.slice a m c) ∧ Hid ((RowI w' (.slice a m c) L ∧ Fresh w.heap.size (.slice a m c)) ∧ Below W.heap.size W w')) := fun u hu => by
    refine (slclone_f _ L B u (hI.keep ((hbW.trans (hu.mono (by omega))).mono hB)) (by have := hu.size; omega) hlim).mono fun e w' ⟨a, c, he, h⟩ => ⟨a, c, by rw [hm]; exact he, by rw [hm]; exact ⟨⟨h.out.1.1, fun b hb => by have := h.out.1.2 b hb; have := hu.size; omega⟩, hu.trans (h.out.2.mono hu.size)⟩⟩
  have HS : Hid (∀ u, Below W.heap.size W u → u.cell? ⟨w.heap.size, 0, none⟩ = some (.int .i64 ep) ∧ u.cell? ⟨w.heap.size, 1, none⟩ = some (.slice a0 L.length c0)) := fun u hu => ⟨(cW.keep hu cW.lt).cells.1, (cW.keep hu cW.lt).cells.2.1⟩
  have RW := Lib.hid rW
  have HBW := Lib.hid hbW
  have HW := Lib.hid hW
  have HSW := Lib.hid hsW
  clear hI hbW cW rW
  rw [← hm] at HX HS HW ⊢
  clear hm hW hsW
  go_enter Try.func29, Try.ntmps29
  go_wp2_with fail
  rw [← HW.out]
  have m0 : Below W.heap.size W W.drew := (Below.refl _ _).drew
  obtain ⟨c1, c2⟩ := HS.out _ (Below.refl _ W)
  obtain ⟨f0, f1, f2, f3⟩ := RW.out.cells
  refine wp_region_held_drew (S := (fun u => u.cell? ⟨w.heap.size, 0, none⟩ = some (.int .i64 ep) ∧ u.cell? ⟨w.heap.size, 1, none⟩ = some (.slice a0 m c0))) (by kernel_rfl) (HS.out _ m0) (fun hHeld => ?_)
  first
    | (refine held_take 0 3 (v := ?_) rfl rfl (by kernel_rfl) (by kernel_rfl) (by kernel_rfl) (fun _ _ _ h => h) (by assumption) (by rfl) ?_ ?_; rotate_left; (focus (intro w hSw; obtain ⟨hS0, hS1⟩ := hSw; go_simp <;> with_reducible rfl)))
    | refine held_pass 0 3 rfl rfl (by kernel_rfl) (by kernel_rfl) (by kernel_rfl) (fun _ _ _ h => h) (by assumption) (by rfl) ?_
  simp only [Act.put, List.setIfInBounds_toArray, List.set_cons_zero, List.set_cons_succ]
  first
    | (refine held_take 1 4 (v := ?_) rfl rfl (by kernel_rfl) (by kernel_rfl) (by kernel_rfl) (fun _ _ _ h => h) (by assumption) (by rfl) ?_ ?_; rotate_left; (focus (intro w hSw; obtain ⟨hS0, hS1⟩ := hSw; go_simp <;> with_reducible rfl)))
    | refine held_pass 1 4 rfl rfl (by kernel_rfl) (by kernel_rfl) (by kernel_rfl) (fun _ _ _ h => h) (by assumption) (by rfl) ?_
  simp only [Act.put, List.setIfInBounds_toArray, List.set_cons_zero, List.set_cons_succ]
  first
    | (refine held_take 2 5 (v := ?_) rfl rfl (by kernel_rfl) (by kernel_rfl) (by kernel_rfl) (fun _ _ _ h => h) (by assumption) (by rfl) ?_ ?_; rotate_left; (focus (intro w hSw; obtain ⟨hS0, hS1⟩ := hSw; go_simp <;> with_reducible rfl)))
    | refine held_pass 2 5 rfl rfl (by kernel_rfl) (by kernel_rfl) (by kernel_rfl) (fun _ _ _ h => h) (by assumption) (by rfl) ?_
  simp only [Act.put, List.setIfInBounds_toArray, List.set_cons_zero, List.set_cons_succ]
  first
    | (refine held_take 3 6 (v := ?_) rfl rfl (by kernel_rfl) (by kernel_rfl) (by kernel_rfl) (fun _ _ _ h => h) (by assumption) (by rfl) ?_ ?_; rotate_left; (focus (intro w hSw; obtain ⟨hS0, hS1⟩ := hSw; go_simp <;> with_reducible rfl)))
    | refine held_pass 3 6 rfl rfl (by kernel_rfl) (by kernel_rfl) (by kernel_rfl) (fun _ _ _ h => h) (by assumption) (by rfl) ?_
  simp only [Act.put, List.setIfInBounds_toArray, List.set_cons_zero, List.set_cons_succ]
  refine held_call 4 7 rfl rfl (by kernel_rfl) (by rfl) (fun K hK => ?_)
  simp only [Go.wp_at_succ, Go.wp_at_zero]
  go_simp
  refine (HX.out _ ?b1).mono ?_
  case b1 => go_grown
  rintro e u1 ⟨a1, kc, rfl, H1⟩
  first | (with_reducible refine hK.out _ _ ?_ (fun hHeld => ?_)) | (go_wp2_with fail; refine hK.out _ _ ?_ (fun hHeld => ?_))
  · exact HS.out _ H1.out.2
  clear hK K
  try simp only [Act.put, List.setIfInBounds_toArray, List.set_cons_zero, List.set_cons_succ]
  first
    | (refine held_take 5 8 (v := ?_) rfl rfl (by kernel_rfl) (by kernel_rfl) (by kernel_rfl) (fun _ _ _ h => h) (by assumption) (by rfl) ?_ ?_; rotate_left; (focus (intro w hSw; obtain ⟨hS0, hS1⟩ := hSw; go_simp <;> with_reducible rfl)))
    | refine held_pass 5 8 rfl rfl (by kernel_rfl) (by kernel_rfl) (by kernel_rfl) (fun _ _ _ h => h) (by assumption) (by rfl) ?_
  simp only [Act.put, List.setIfInBounds_toArray, List.set_cons_zero, List.set_cons_succ]
  have R2 := Lib.hid (RW.out.keep H1.out.2 RW.out.lt)
  obtain ⟨y0, y1, z0, z1⟩ := R2.out.cells
  have KL := H1.out.2.size
  have hsw := HSW.out
  obtain ⟨k1, k2⟩ := R2.out.stored (ep' := ep) (v' := .slice a1 m kc)
  have K1 := Lib.hid k1
  have K2 := Lib.hid k2
  have KS : Hid ((fun u => u.cell? ⟨w.heap.size, 0, none⟩ = some (.int .i64 ep) ∧ u.cell? ⟨w.heap.size, 1, none⟩ = some (.slice a0 m c0)) (chW u1 (w.heap.size + 1) ep (.slice a1 m kc))) := ⟨(k2.cell (p := ⟨w.heap.size, 0, none⟩) (show w.heap.size < u1.heap.size by omega) (by simp)).trans hHeld.1, (k2.cell (p := ⟨w.heap.size, 1, none⟩) (show w.heap.size < u1.heap.size by omega) (by simp)).trans hHeld.2⟩
  clear k1 k2 hsw
  refine wpAnyH_ready (rs := [6]) (by kernel_rfl) (by simp) (AllReadyH.cons rfl (fun K hK => ?_) AllReadyH.nil)
  try simp only [Go.wp_at_succ, Go.wp_at_zero]
  go_simp
  refine hK.out _ _ ?_ (fun hHeld => ?_)
  · exact KS.out
  clear hK K
  try simp only [Act.put, List.setIfInBounds_toArray, List.set_cons_zero, List.set_cons_succ]
  refine wpAnyH_done (by kernel_rfl) ?_ _
  go_wp2
  obtain ⟨e0, e1, _, _⟩ := K1.out.cells
  unfold chW at e0 e1
  refine bodyPost_ret (v := .agg #[.int .i64 ep, .slice a1 m kc]) (by simp [results, Try.results29, go_sem, e0, e1]) rfl ⟨a1, kc, rfl, ⟨H1.out.1.1.beside R2.out (by decide) K2.out, H1.out.1.2⟩, K2.out.below (HBW.out.trans (H1.out.2.mono HBW.out.size)) (fun x hx => by omega) (by have := HSW.out; have := H1.out.2.size; omega)⟩
set_option maxRecDepth 100000 in
set_option maxHeartbeats 1000000 in
theorem tychain_r {w : World} {p pm ym : Nat} {cv : Value} {s : TalV} (hA : TalR w p pm ym cv s) (hl : s.C.length ≤ 1000000) :
    Calls Try.prog 21 #[.pointer (some ⟨p, 0, none⟩)] w fun e w' => ∃ a c, e = .returned (.agg #[.int .i64 s.ce, .slice a s.C.length c]) ∧ Hid (RowI w' (.slice a s.C.length c) s.C ∧ Below w.heap.size w w') := by
  obtain ⟨W, hW⟩ : ∃ W, W = w.alloc (.cells #[.int .i64 0, .slice none 0 0] 26) := ⟨_, rfl⟩
  have hb : Below w.heap.size w W := by rw [hW]; exact (Below.refl _ w).alloc (Nat.le_refl _) _
  have hr : ChT W w.heap.size 0 (.slice none 0 0) := by rw [hW]; exact ChT.fresh w _ _
  have a1 := hA.on hb
  have HC := Lib.hid (tycopy_r s.ce cv s.C W.heap.size W a1.c.ints (Nat.le_refl _) hl)
  have HR := Lib.hid hr
  have HB := Lib.hid hb
  have HW := Lib.hid hW
  have hsW : W.heap.size = w.heap.size + 1 := by rw [hW]; simp
  have hp := hA.b.lt
  have hpn : p ≠ w.heap.size := by omega
  obtain ⟨_, _, _, _, _, x1, x2, _⟩ := a1.b.cells
  obtain ⟨a0, c0, rfl⟩ := hA.c.shape
  clear hW hb hr a1 hA
  rw [HW.out] at x1 x2
  go_enter Try.func21, Try.ntmps21
  go_wp2_with fail
  rw [← HW.out]
  refine HC.out.mono ?_
  rintro e w1 ⟨a, c, rfl, H1⟩
  have R1 := Lib.hid (HR.out.keep H1.out.2 HR.out.lt)
  obtain ⟨f0, f1, f2, f3⟩ := R1.out.cells
  go_wp2
  obtain ⟨k1, k2⟩ := R1.out.stored (ep' := s.ce) (v' := .slice a s.C.length c)
  obtain ⟨e0, e1, _, _⟩ := k1.cells
  unfold chW at e0 e1
  refine bodyPost_ret (v := .agg #[.int .i64 s.ce, .slice a s.C.length c]) (by simp [results, Try.results21, go_sem, e0, e1]) rfl ⟨a, c, rfl, H1.out.1.1.beside R1.out (by decide) k2, k2.below (HB.out.trans (H1.out.2.mono HB.out.size)) (fun x hx => by omega) (by have := H1.out.2.size; omega)⟩
set_option maxHeartbeats 1000000 in
theorem tychain_nil (w : World) :
    Calls Try.prog 21 #[.pointer none] w fun e w' => e = .returned (.agg #[.int .i64 0, .slice none 0 0]) ∧ Below w.heap.size w w' := by
  go_enter Try.func21, Try.ntmps21
  go_wp2
  go_returns
  exact ⟨by first | rfl | trivial, (Below.refl _ w).alloc (Nat.le_refl _) _⟩

set_option maxRecDepth 100000 in
set_option maxHeartbeats 1000000 in
theorem tymay_r (ep : Int) (v : Value) (L : List Int) (B : Nat) (w : World) (hI : Ints w B v L) (hB : B ≤ w.heap.size) (h0 : -9223372036854775808 ≤ ep) (h1 : ep ≤ 9223372036854775807) {R : Bool} (hR : decide (ChainV.may ⟨ep, L⟩) = R) :
    Calls Try.prog 28 #[.agg #[.int .i64 ep, v]] w fun e w' => e = .returned (.bool R) ∧ Below w.heap.size w w' := by
  obtain ⟨a0, c0, rfl⟩ : ∃ a c, v = .slice a L.length c := by obtain ⟨a, c, h, _⟩ := hI; exact ⟨a, c, h⟩
  obtain ⟨X, hX⟩ : ∃ X, X = decide (nextC ep L (wrap64 (ep + 1)) L 5) := ⟨_, rfl⟩
  obtain ⟨Y, hY⟩ : ∃ Y, Y = decide (nextC (wrap64 (ep - 1)) L ep L 5) := ⟨_, rfl⟩
  have hXY : (X || Y) = R := by
    rw [← hR, hX, hY, Bool.eq_iff_iff]
    simp only [Bool.or_eq_true, decide_eq_true_eq]
    exact may_next h0 h1
  have HN1 : Hid (∀ u, Below w.heap.size w u → Calls Try.prog 44 #[.agg #[.int .i64 ep, .slice a0 L.length c0], .agg #[.int .i64 (wrap64 (ep + 1)), .slice a0 L.length c0], .int .i64 5] u fun e w' => e = .returned (.bool X) ∧ Below u.heap.size u w') := fun u hu =>
    chnext_r ep _ L _ _ L 5 B u (hI.keep (hu.mono hB)) (hI.keep (hu.mono hB)) (Nat.le_trans hB hu.size) hX.symm
  have HN2 : Hid (∀ u, Below w.heap.size w u → Calls Try.prog 44 #[.agg #[.int .i64 (wrap64 (ep - 1)), .slice a0 L.length c0], .agg #[.int .i64 ep, .slice a0 L.length c0], .int .i64 5] u fun e w' => e = .returned (.bool Y) ∧ Below u.heap.size u w') := fun u hu =>
    chnext_r _ _ L ep _ L 5 B u (hI.keep (hu.mono hB)) (hI.keep (hu.mono hB)) (Nat.le_trans hB hu.size) hY.symm
  have HR := Lib.hid hXY
  obtain ⟨e1, he1⟩ : ∃ e, e = wrap64 (ep + 1) := ⟨_, rfl⟩
  obtain ⟨e2, he2⟩ : ∃ e, e = wrap64 (ep - 1) := ⟨_, rfl⟩
  rw [← he1] at HN1
  rw [← he2] at HN2
  have HE1 := Lib.hid he1
  have HE2 := Lib.hid he2
  obtain ⟨W, hW⟩ : ∃ W, W = ((w.alloc (.cells #[.int .i64 ep, .slice a0 L.length c0] 26)).alloc (.cells #[.int .i64 e1, .slice a0 L.length c0] 26)).alloc (.cells #[.int .i64 e2, .slice a0 L.length c0] 26) := ⟨_, rfl⟩
  have hB0 : Below w.heap.size w W := by rw [hW]; exact (((Below.refl _ w).alloc (Nat.le_refl _) _).alloc (by simp) _).alloc (by simp; omega) _
  have q0 : ChT W w.heap.size ep (.slice a0 L.length c0) := by rw [hW]; exact (ChT.fresh w _ _).keep (((Below.refl _ _).alloc (Nat.le_refl _) _).alloc (by simp) _) (by simp)
  have q1 : ChT W (w.heap.size + 1) e1 (.slice a0 L.length c0) := by
    rw [hW]
    have h := ChT.fresh (w.alloc (.cells #[.int .i64 ep, .slice a0 L.length c0] 26)) e1 (.slice a0 L.length c0)
    rw [World.size_alloc] at h
    exact h.keep ((Below.refl _ _).alloc (Nat.le_refl _) _) (by simp)
  have q2 : ChT W (w.heap.size + 2) e2 (.slice a0 L.length c0) := by
    rw [hW]
    have h := ChT.fresh ((w.alloc (.cells #[.int .i64 ep, .slice a0 L.length c0] 26)).alloc (.cells #[.int .i64 e1, .slice a0 L.length c0] 26)) e2 (.slice a0 L.length c0)
    rw [World.size_alloc, World.size_alloc] at h
    exact h
  have HB0 := Lib.hid hB0
  have Q0 := Lib.hid q0
  have Q1 := Lib.hid q1
  have Q2 := Lib.hid q2
  obtain ⟨g0, g1, _, _⟩ := q0.cells
  obtain ⟨g2, g3, _, _⟩ := q1.cells
  obtain ⟨g4, g5, _, _⟩ := q2.cells
  rw [hW] at g0 g1 g2 g3 g4 g5
  have HW := Lib.hid hW
  clear hI hX hY hXY hR he1 he2 hW hB0 q0 q1 q2 h0 h1
  cases X with
  | true =>
    obtain rfl : R = true := by rw [← HR.out]; rfl
    clear HR HN2
    go_enter Try.func28, Try.ntmps28
    go_wp2_with fail
    simp only [← HE1.out, ← HE2.out, ← HW.out]
    clear g0 g1 g2 g3 g4 g5
    refine (HN1.out _ HB0.out).mono ?_
    rintro e w1 ⟨rfl, H1⟩
    go_wp2
    go_returns
    exact ⟨rfl, HB0.out.trans (H1.mono HB0.out.size)⟩
  | false =>
    have HR2 : Hid (Y = R) := by show _ = _; rw [← HR.out]; rfl
    clear HR
    go_enter Try.func28, Try.ntmps28
    go_wp2_with fail
    simp only [← HE1.out, ← HE2.out, ← HW.out]
    clear g0 g1 g2 g3 g4 g5
    refine (HN1.out _ HB0.out).mono ?_
    rintro e w1 ⟨rfl, H1⟩
    have C1 := Lib.hid (HB0.out.trans (H1.mono HB0.out.size))
    obtain ⟨g0, g1, _, _⟩ := (Q0.out.keep H1 Q0.out.lt).cells
    obtain ⟨g4, g5, _, _⟩ := (Q2.out.keep H1 Q2.out.lt).cells
    clear H1
    go_wp2_with fail
    refine (HN2.out _ C1.out).mono ?_
    rintro e w2 ⟨rfl, H2⟩
    go_wp2
    go_returns
    exact ⟨ret_bool HR2.out, C1.out.trans (H2.mono C1.out.size)⟩

theorem run_ne_bal (a b c d : Int) (w : World) : (binOp .neq 23 (.agg #[.int .i64 a, .int .i64 b]) (.agg #[.int .i64 c, .int .i64 d])).run Try.prog w = .ok (.bool (!decide (a = c ∧ b = d))) w := by
  rw [run_neq_struct, run_equalIn_agg _ _ _ _ _ (by kernel_rfl) (by kernel_rfl)]
  by_cases h1 : a = c <;> by_cases h2 : b = d <;> simp [Program.fieldsOf, Try.underlying23, Op.eqFields, go_sem, h1, h2]
/-- A comparison (!=) of two structs whose run lies as a fact. -/
theorem exec_neq_agg {P : Program} {o : Oper} {a : Act} {t t2 : TypeId} {x y : Operand} {v : Value} {w : World} (cx cy : Array Value) (hg : P.eqGuardType P.depth t = false) (ho : o.op = .binOp .neq t x y t2) (hx : a.eval x = .agg cx) (hy : a.eval y = .agg cy)
    (h : (binOp .neq t (.agg cx) (.agg cy)).run P w = .ok v w) :
    (execOp a.eval o).run P w = .ok (.value v) w := by
  unfold execOp
  rw [ho]
  simp only [hx, hy]
  have hge := run_eqGuard_agg (P := P) (w := w) BinOp.neq t x y cx cy hg
  generalize binOp .neq t (.agg cx) (.agg cy) = B at h ⊢
  generalize eqGuard .neq t x y (.agg cx) (.agg cy) = E at hge ⊢
  simp [go_sem, hge, h]
end Go.Proofs.Ytiidmiioegdfaaa
