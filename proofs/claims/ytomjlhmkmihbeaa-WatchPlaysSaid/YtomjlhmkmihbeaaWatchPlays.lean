/-
  PROVED: casebooklaw17.WatchPlays answers true and leaves its arguments as they were, for any numbers and any steps: the row's own reading and nothing else is assumed.
-/
import Derived.Test.YtomjlhmkmihbeaaOpArgs
import Derived.Test.YtomjlhmkmihbeaaWatR
import Derived.Test.YtomjlhmkmihbeaaItemRC
import Derived.Deep.RegionHeld3
import Derived.Deep.DeepCutAuto
namespace Go.Proofs.Ytomjlhmkmihbeaa
open Go.RowKit

/-- The program's watch and the reference's. -/
structure WB (m : Nat) (w : World) (p rb ab n s c : Nat) (f g : Nat → Nat) (u : World) : Prop where
  wo : WO m w p n s f u
  rw : RWat u m rb ab n s c g
section
variable {m : Nat} {w u u' : World} {p rb ab n s c : Nat} {f g : Nat → Nat}
theorem WB.on (h : WB m w p rb ab n s c f g u) (hb : Below u.heap.size u u') : WB m w p rb ab n s c f g u' := ⟨h.wo.on hb, h.rw.on hb⟩
theorem RWat.beside (H : RWat u m rb ab n s c g) (hk : KWt u u') : RWat u' m rb ab n s c g := by
  obtain ⟨cur, h1, h2⟩ := H.row
  exact ⟨hk.same _ _ _ H.blk (by decide), ⟨cur, hk.same _ _ _ h1 (by decide), h2⟩, H.low, H.pos, H.le⟩
/-- The step's block. -/
structure WS (m : Nat) (w : World) (p rb ab n s c : Nat) (f g : Nat → Nat) (o : Nat) (kd t x : Int) (u : World) : Prop where
  b : WB m w p rb ab n s c f g u
  ob : u.heap[o]? = some (.cells #[.int .i64 kd, .int .i64 t, .int .i64 x] 53 (0, 0))
variable {o : Nat} {kd t x : Int}
theorem WS.on (h : WS m w p rb ab n s c f g o kd t x u) (hb : Below u.heap.size u u') : WS m w p rb ab n s c f g o kd t x u' := ⟨h.b.on hb, (hb.block o (lt_of_block h.ob)).trans h.ob⟩
theorem WS.c1 (h : WS m w p rb ab n s c f g o kd t x u) : u.cell? ⟨o, 1, none⟩ = some (.int .i64 t) := by rw [cell_of_row _ _ _ _ _ _ h.ob]; rfl
theorem WS.c2 (h : WS m w p rb ab n s c f g o kd t x u) : u.cell? ⟨o, 2, none⟩ = some (.int .i64 x) := by rw [cell_of_row _ _ _ _ _ _ h.ob]; rfl
theorem WS.hear1 (h : WS m w p rb ab n s c f g o kd t x u) {f' : Nat → Nat} (hf : hearV n f t x = f') :
    Calls Try.prog 28 #[.pointer (some ⟨p, 0, none⟩), .int .i64 t, .int .i64 x] u fun e w' => e = .returned (.tuple #[]) ∧ Hid (WS m w p rb ab n s c f' g o kd t x w') :=
  (h.b.wo.hear t x).mono fun _ _ ⟨he, hh⟩ => ⟨he, by rw [hf] at hh; exact ⟨⟨hh.out.1, h.b.rw.beside hh.out.2⟩, hh.out.2.same o _ _ h.ob (by decide)⟩⟩
theorem WS.hear2 (h : WS m w p rb ab n s c f g o kd t x u) {g' : Nat → Nat} (hg : hearV n g t x = g') :
    Calls Try.prog 29 #[.pointer (some ⟨rb, 0, none⟩), .int .i64 t, .int .i64 x] u fun e w' => e = .returned (.tuple #[]) ∧ Hid (WS m w p rb ab n s c f g' o kd t x w') :=
  (qwheard_r h.b.rw t x).mono fun _ _ ⟨he, hr, ho⟩ => ⟨he, by
    rw [hg] at hr
    have hp : ¬ p = ab := fun e => h.b.rw.row.kind h.b.wo.wt.blk (by decide) e.symm
    have hq : ¬ o = ab := fun e => h.b.rw.row.kind h.ob (by decide) e.symm
    exact ⟨⟨⟨h.b.wo.wt.keep ho hp, ho.below h.b.wo.bel (fun y hy => hy ▸ h.b.rw.low.2) h.b.wo.size, h.b.wo.low, h.b.wo.nw⟩, hr⟩, (ho.block o (lt_of_block h.ob) hq).trans h.ob⟩⟩
theorem WS.gone1 (h : WS m w p rb ab n s c f g o kd t x u) (ht : Top t) {X : List Int} {q : Nat} (hX : X = goneL n s f t) (hq : q = X.length) :
    Calls Try.prog 31 #[.pointer (some ⟨p, 0, none⟩), .int .i64 t] u fun e w' => ∃ a c', e = .returned (.slice a q c') ∧ RowI w' (.slice a q c') X ∧ WS m w p rb ab n s c f g o kd t x w' ∧ Below u.heap.size u w' := by
  subst hq
  exact (h.b.wo.gone t ht hX.symm).mono fun _ _ ⟨a, c', he, hh⟩ => ⟨a, c', he, hh.out.1, h.on hh.out.2, hh.out.2⟩
theorem WS.gone2 (h : WS m w p rb ab n s c f g o kd t x u) (ht : Top t) {X : List Int} {q : Nat} (hX : X = goneL n s g t) (hq : q = X.length) :
    Calls Try.prog 32 #[.pointer (some ⟨rb, 0, none⟩), .int .i64 t] u fun e w' => ∃ a c', e = .returned (.slice a q c') ∧ RowI w' (.slice a q c') X ∧ WS m w p rb ab n s c f g o kd t x w' ∧ Below u.heap.size u w' := by
  subst hq
  refine (qwgone_r h.b.rw t ht).mono ?_
  rintro e w' ⟨v, he, hr, hb⟩
  rw [← hX] at hr
  have hr' := RowI.own hr
  obtain ⟨a, c', rfl⟩ := hr'.shape
  exact ⟨a, c', he, hr', h.on hb, hb⟩
theorem WS.there1 (h : WS m w p rb ab n s c f g o kd t x u) (ht : Top t) {R : Bool} (hR : isT n s f t x = R) :
    Calls Try.prog 33 #[.pointer (some ⟨p, 0, none⟩), .int .i64 t, .int .i64 x] u fun e w' => e = .returned (.bool R) ∧ WS m w p rb ab n s c f g o kd t x w' :=
  (h.b.wo.isThere t x ht hR).mono fun _ _ ⟨he, hw⟩ => ⟨he, hw ▸ h⟩
theorem WS.there2 (h : WS m w p rb ab n s c f g o kd t x u) (ht : Top t) {R : Bool} (hR : isT n s g t x = R) :
    Calls Try.prog 34 #[.pointer (some ⟨rb, 0, none⟩), .int .i64 t, .int .i64 x] u fun e w' => e = .returned (.bool R) ∧ WS m w p rb ab n s c f g o kd t x w' :=
  (qwthere_r h.b.rw t x ht hR).mono fun _ _ ⟨he, hw⟩ => ⟨he, hw ▸ h⟩
end
end Go.Proofs.Ytomjlhmkmihbeaa
namespace Go.Proofs.Ytomjlhmkmihbeaa.WatchPlays
open Go.ChangeShapes Go.WideShapes Go.ChangeAt Go.RowKit

set_option maxRecDepth 100000 in
set_option maxHeartbeats 2000000 in
theorem no (n s t : Int) (v : Value) (w : World) (hm : mayW n s t = false) :
    Calls Try.prog 8 #[.int .i64 n, .int .i64 s, .int .i64 t, v] w fun e w' => e = .returned (.bool true) ∧ Below w.heap.size w w' := by
  have HT := Lib.hid (fun u => told17_any u)
  have H1 := Lib.hid (fun u => wtnew_no n s t u hm)
  have H2 := Lib.hid (fun u => qwnew_no n s t u hm)
  clear hm
  go_enter Try.func8, Try.ntmps8
  go_wp2_with fail
  refine (H1.out _).mono ?_
  rintro e w1 ⟨rfl, rfl⟩
  go_wp2_with fail
  refine (H2.out _).mono ?_
  rintro e w2 ⟨rfl, rfl⟩
  go_wp2_with fail
  refine (HT.out _).mono ?_
  rintro e w3 ⟨rfl, B3⟩
  have D3 := Lib.hid B3
  clear B3
  go_wp2
  go_returns
  exact ⟨by first | rfl | trivial, D3.out⟩

set_option maxRecDepth 100000 in
set_option maxHeartbeats 2000000 in
theorem yes (n s t : Nat) (a : Option Addr) (len c : Nat) (l : List WStepV) (w : World) (h0 : 0 < n) (h5 : n ≤ 5) (hs : s < n) (ht : t ≤ 1099511627776) (hI : WSteps w w.heap.size (.slice a len c) l) :
    Calls Try.prog 8 #[.int .i64 n, .int .i64 s, .int .i64 t, .slice a len c] w fun e w' => e = .returned (.bool true) ∧ Below w.heap.size w w' := by
  have HT := Lib.hid (fun u => told17_any u)
  obtain ⟨_, _, hv, _, hfit, hcells⟩ := hI
  cases hv
  obtain ⟨len, hl⟩ : ∃ len, len = l.length := ⟨_, rfl⟩
  obtain ⟨m, hm⟩ : ∃ m, m = w.heap.size := ⟨_, rfl⟩
  rw [← hl]
  rw [← hm] at hcells ⊢
  have HN : Hid (Calls Try.prog 25 #[.int .i64 n, .int .i64 s, .int .i64 t] w fun e w' => ∃ p, e = .returned (.tuple #[.pointer (some ⟨p, 0, none⟩), .int .i64 0]) ∧ Hid (WO m w p n s (wtOf t n) w' ∧ Below w.heap.size w w')) :=
    wo_new n s t w h0 h5 hs ht (Below.refl _ _) (Nat.le_of_eq hm)
  have HQ : Hid (∀ u, Calls Try.prog 26 #[.int .i64 n, .int .i64 s, .int .i64 t] u fun e w' => ∃ rb ab cc, e = .returned (.pointer (some ⟨rb, 0, none⟩)) ∧ RWat w' u.heap.size rb ab n s cc (wtOf t n) ∧ Below u.heap.size u w') :=
    fun u => (qwnew_yes n s t u h0 h5 hs ht).mono fun _ _ ⟨ab, cc, he, hr, hb⟩ => ⟨_, ab, cc, he, hr, hb⟩
  have HF := Lib.hid hfit
  have HL := Lib.hid hl
  have HC := Lib.hid hcells
  have HX : Hid (∀ a1 c1 a2 c2 n1 n2 (X : List Int) u, X.length ≤ 1000 → RowI u (.slice a1 n1 c1) X → RowI u (.slice a2 n2 c2) X → Calls Try.prog 30 #[.slice a1 n1 c1, .slice a2 n2 c2] u fun e w' => e = .returned (.bool true) ∧ Below u.heap.size u w') := by
    intro a1 c1 a2 c2 n1 n2 X u hX h1 h2
    have h := refints_any _ _ X X u.heap.size u h1.ints h2.ints (Nat.le_refl _) (by omega)
    rwa [decide_eq_true rfl] at h
  clear hcells hl hm hfit h0 h5 hs ht
  generalize wtOf t n = f0 at HN HQ
  go_enter Try.func8, Try.ntmps8
  go_wp2_with fail
  refine HN.out.mono ?_
  rintro e w1 ⟨p, rfl, H1⟩
  clear HN
  go_wp2_with fail
  refine (HQ.out _).mono ?_
  rintro e w2 ⟨rb, ab, cc, rfl, R2, B2⟩
  have S0 : Hid (WB m w p rb ab n s cc f0 f0 w2) := ⟨H1.out.1.on B2, ⟨R2.blk, R2.row, ⟨Nat.le_trans H1.out.1.size R2.low.1, Nat.le_trans H1.out.1.size R2.low.2⟩, R2.pos, R2.le⟩⟩
  clear H1 R2 B2 HQ
  go_wp2_with fail
  go_loopw [12] (fun s12 wr => ∃ (i : Nat) (f : Nat → Nat), s12 = .int .i64 i ∧ i ≤ 80 ∧ Hid (WB m w p rb ab n s cc f f wr)) (fun s12 _ => 80 - (intOf s12).toNat)
  case atStart => exact ⟨0, f0, rfl, Nat.zero_le _, S0.out⟩
  case round =>
    clear S0
    obtain ⟨i, f, rfl, hi, HS⟩ := hrel
    by_cases hlt : i < len ∧ i < 80
    · obtain ⟨hl1, hl2⟩ := hlt
      have hkl : i < l.length := by rw [← HL.out]; exact hl1
      obtain ⟨xb, off, rfl, hxb, hc⟩ := HC.out (List.length_pos_iff.1 (Nat.lt_of_le_of_lt (Nat.zero_le i) hkl))
      obtain ⟨hf0, hf1, hf2⟩ := HF.out _ (List.getElem_mem hkl)
      have hco := (hc i hkl).keep HS.out.wo.bel hxb
      obtain ⟨⟨kd, t', x⟩, ho⟩ : ∃ o, o = l[i] := ⟨_, rfl⟩
      rw [← ho] at hco hf0 hf1 hf2
      obtain ⟨q0, q1, q2⟩ := hco
      dsimp only at q0 q1 q2 hf0 hf1 hf2
      have HTOP : Hid (Top t') := ⟨hf1.2⟩
      have i1 : (i : Int) < (len : Int) := by omega
      have i0 : (0 : Int) ≤ (i : Int) := by omega
      have i2 : (i : Int) < 80 := by omega
      have HZ : Hid (WS m w p rb ab n s cc f f wr.heap.size kd t' x (wr.alloc (.cells #[.int .i64 kd, .int .i64 t', .int .i64 x] 53))) := ⟨HS.out.on ((Below.refl _ _).alloc (Nat.le_refl _) _), heap_alloc_new _ _⟩
      clear ho hc hf0 hf1 hf2 hxb
      by_cases e0 : kd = 0
      · subst e0
        go_wp2_with fail
        obtain ⟨o, hoo⟩ : ∃ o, o = wr.heap.size := ⟨_, rfl⟩
        obtain ⟨W, hW⟩ : ∃ W, W = wr.alloc (.cells #[.int .i64 0, .int .i64 t', .int .i64 x] 53) := ⟨_, rfl⟩
        rw [← hoo, ← hW] at HZ
        rw [← hoo, ← hW]
        clear hoo hW HS
        obtain ⟨f', hf'⟩ : ∃ f', hearV n f t' x = f' := ⟨_, rfl⟩
        have D2 : Hid (∀ u, WS m w p rb ab n s cc f' f o 0 t' x u → _) := fun u hu => WS.hear2 hu hf'
        have D1 := Lib.hid (HZ.out.hear1 hf')
        clear hf'
        refine D1.out.mono ?_
        rintro e w3 ⟨rfl, Z3⟩
        have z1 := Z3.out.c1
        have z2 := Z3.out.c2
        go_wp2_with fail
        refine (D2.out _ Z3.out).mono ?_
        rintro e w4 ⟨rfl, Z4⟩
        go_wp2
        go_roundw
        case rel => exact ⟨i + 1, f', by go_num, by omega, Z4.out.b⟩
        case measure => simp [intOf]; omega
      · have b0 : (kd == 0) = false := beq_eq_false_iff_ne.2 e0
        clear e0
        go_upto_region 14 with fail
        obtain ⟨o, hoo⟩ : ∃ o, o = wr.heap.size := ⟨_, rfl⟩
        obtain ⟨W, hW⟩ : ∃ W, W = wr.alloc (.cells #[.int .i64 kd, .int .i64 t', .int .i64 x] 53) := ⟨_, rfl⟩
        rw [← hoo, ← hW] at HZ
        rw [← hoo, ← hW]
        clear hoo hW HS q0 q1 q2
        obtain ⟨X, hX⟩ : ∃ X, X = goneL n s f t' := ⟨_, rfl⟩
        obtain ⟨q, hq⟩ : ∃ q, q = X.length := ⟨_, rfl⟩
        have KX : Hid (X.length ≤ 1000) := by
          show _ ≤ _
          have h1 := goneN_len n s f t' n
          have h2 := HZ.out.b.rw.le
          rw [hX]
          unfold goneL
          rw [List.length_map]
          omega
        obtain ⟨R, hR⟩ : ∃ R, isT n s f t' x = R := ⟨_, rfl⟩
        have D1 : Hid (∀ u, WS m w p rb ab n s cc f f o kd t' x u → _) := fun u hu => WS.gone1 hu HTOP.out hX hq
        have D2 : Hid (∀ u, WS m w p rb ab n s cc f f o kd t' x u → _) := fun u hu => WS.gone2 hu HTOP.out hX hq
        have D3 : Hid (∀ u, WS m w p rb ab n s cc f f o kd t' x u → _) := fun u hu => WS.there1 hu HTOP.out hR
        have D4 : Hid (∀ u, WS m w p rb ab n s cc f f o kd t' x u → _) := fun u hu => WS.there2 hu HTOP.out hR
        have z1 := HZ.out.c1
        have z2 := HZ.out.c2
        clear hX hq hR
        go_region_held3 (fun u => u.cell? ⟨o, 1, none⟩ = some (.int .i64 t') ∧ u.cell? ⟨o, 2, none⟩ = some (.int .i64 x)) (first | assumption | go_keep)
          (first
            | (go_at_call 31
               (with_reducible refine (D1.out _ (HZ.out.on (by go_grown))).mono ?_)
               rintro e u4 ⟨a1, c1, rfl, hi1, hs1, hbel⟩
               have I1 := Lib.hid hi1
               have S4 := Lib.hid hs1
               have z3 := hs1.c1
               have z4 := hs1.c2
               clear hi1 hs1 hbel)
            | (go_at_call 32
               (with_reducible refine (D2.out _ (S4.out.on (by go_grown))).mono ?_)
               rintro e u5 ⟨a2, c2, rfl, hi2, hs2, hbel⟩
               have I2 := Lib.hid hi2
               have BB := Lib.hid ((show Below u4.heap.size u4 _ by go_grown).trans hbel)
               have J1 := Lib.hid (I1.out.on BB.out)
               have S5 := Lib.hid hs2
               have z5 := hs2.c1
               have z6 := hs2.c2
               clear hi2 hs2 hbel)
            | (go_at_call 30
               (with_reducible refine (HX.out _ _ _ _ _ _ _ _ KX.out J1.out I2.out).mono ?_)
               rintro e u6 ⟨rfl, hb⟩
               have S6 := Lib.hid (S5.out.on hb)
               have z7 := S6.out.c1
               have z8 := S6.out.c2
               clear hb)
            | (go_at_call 33
               (with_reducible refine (D3.out _ (S6.out.on (by go_grown))).mono ?_)
               rintro e u7 ⟨rfl, hs7⟩
               have S7 := Lib.hid hs7
               have z9 := hs7.c1
               have z10 := hs7.c2
               clear hs7)
            | (go_at_call 34
               (with_reducible refine (D4.out _ (S7.out.on (by go_grown))).mono ?_)
               rintro e u8 ⟨rfl, hs8⟩
               have S8 := Lib.hid hs8
               have z11 := hs8.c1
               have z12 := hs8.c2
               clear hs8))
        all_goals
          clear D1 D2 D3 D4 I1 S4 I2 BB J1 S5 HX KX z1 z2 z3 z4 z5 z6 z7 z8
          go_wp2
          go_roundw
          case rel => exact ⟨i + 1, f, by go_num, by omega, S8.out.b⟩
          case measure => simp [intOf]; omega
    · have HE := Lib.hid fun u (hu : Below wr.heap.size wr u) => (HS.out.on hu).wo.bel
      by_cases hl1 : i < len
      · have i1 : (i : Int) < (len : Int) := by omega
        have i2 : (80 : Int) ≤ (i : Int) := by omega
        clear hlt
        go_wp2_with fail
        refine (HT.out _).mono ?_
        rintro e w3 ⟨rfl, B3⟩
        have S3 := Lib.hid (HE.out _ B3)
        clear B3 HS
        go_wp2
        go_returns
        exact ⟨by first | rfl | trivial, S3.out⟩
      · have i1 : (len : Int) ≤ (i : Int) := by omega
        clear hlt
        go_wp2_with fail
        refine (HT.out _).mono ?_
        rintro e w3 ⟨rfl, B3⟩
        have S3 := Lib.hid (HE.out _ B3)
        clear B3 HS
        go_wp2
        go_returns
        exact ⟨by first | rfl | trivial, S3.out⟩

theorem walk (n s t : Int) (v : Value) (l : List WStepV) (w : World) (_ : (Lit.int .i64 n).wf = true) (_ : (Lit.int .i64 s).wf = true) (_ : (Lit.int .i64 t).wf = true) (hI : WSteps w w.heap.size v l) :
    Calls Try.prog 8 #[.int .i64 n, .int .i64 s, .int .i64 t, v] w fun e w' => e = .returned (.bool true) ∧ Below w.heap.size w w' := by
  cases hm : mayW n s t with
  | false => exact no n s t v w hm
  | true =>
    obtain ⟨h1, h2, h3⟩ := of_decide_eq_true hm
    obtain ⟨a, c, rfl, _⟩ := id hI
    have h := yes n.toNat s.toNat t.toNat a _ c l w (by omega) (by omega) (by omega) (by omega) hI
    rwa [show ((n.toNat : Nat) : Int) = n by omega, show ((s.toNat : Nat) : Int) = s by omega, show ((t.toNat : Nat) : Int) = t by omega] at h

set_option maxRecDepth 100000 in
theorem lifted (os : Os) (started : os.Started) (H : Type) (enc : TypeId × Value → H) :
    ReturnsInHanded {} Try.checked os 8 .any (Rows.watchPlaysSpec.pre6 enc Try.prog Try.f8 Rows.watchPlaysRow.domain false) (Rows.watchPlaysSpec.post enc Try.prog Try.f8 false true false false) := by
  refine returnsInHanded_of_change (C := Try.checked) own started (by kernel_rfl) Try.func8
    (ChangeSpec.witness6 (enc := enc) (C := Try.checked) false ⟨#[], #[.int .i64 0, .int .i64 0, .int .i64 0, .slice none 0 0], []⟩ 8 (by kernel_rfl) (by kernel_rfl) (by kernel_rfl) (by kernel_rfl)) ?_
  intro W base args ds gs before hval0 hW hcnd _
  have hval : ∀ (j : Nat) t v, Try.f8.params[j]? = some t → args[j]? = some v → Value.okWide Try.prog W .any base t v := hval0
  have hW' := hW
  obtain ⟨p, q, hA0, hV, rfl, hfz, hnd⟩ := hW
  have hA : DataW.TrodAll enc Try.prog W 0 (fun _ => true) true Try.f8.params.toList args.toList ds p := hA0
  rw [Try.params8] at hA hval
  obtain ⟨v0, vs0, d0, ds0, p0, q0, hargs, rfl, rfl, h0, r0⟩ := trodAll_cons hA
  obtain ⟨v1, vs1, d1, ds1, p1, q1, rfl, rfl, rfl, h1, r1⟩ := trodAll_cons r0
  obtain ⟨v2, vs2, d2, ds2, p2, q2, rfl, rfl, rfl, h2, r2⟩ := trodAll_cons r1
  obtain ⟨v3, vs3, d3, ds3, p3, q3, rfl, rfl, rfl, h3, r3⟩ := trodAll_cons r2
  obtain ⟨rfl, rfl, rfl⟩ := trodAll_nil r3
  obtain rfl : args = #[v0, v1, v2, v3] := by cases args; simp_all
  obtain ⟨rfl, rfl⟩ := trodVars_none hV
  obtain ⟨a0, rfl, rfl, rfl, w0⟩ := open_int Try.underlying3 (hval 0 3 v0 rfl rfl) h0
  obtain ⟨a1, rfl, rfl, rfl, w1⟩ := open_int Try.underlying3 (hval 1 3 v1 rfl rfl) h1
  obtain ⟨a2, rfl, rfl, rfl, w2⟩ := open_int Try.underlying3 (hval 2 3 v2 rfl rfl) h2
  obtain ⟨a3, len3, cap3, rfl⟩ := okWide_slice Try.underlying46 (hval 3 46 v3 rfl rfl)
  have k3 := h3
  have lt3 : ∀ x ∈ p3, x.block < W.heap.size := by obtain ⟨m, hm⟩ := k3; exact DataW.trod_lt m _ _ _ hm
  obtain ⟨l3, w3⟩ := wsteps_open h3
  clear hA0 hval0
  refine (walk a0 a1 a2 (.slice a3 len3 cap3) l3 W w0 w1 w2 w3).mono fun e W' ⟨he, bel⟩ => ?_
  subst he
  exact ⟨_, rfl, _, _, _, [], _, [], hW', trodAll_mk1 (shut_bool Try.underlying4 _), (trodAll_cons_mk (shut_int Try.underlying3 w0) (trodAll_cons_mk (shut_int Try.underlying3 w1) (trodAll_cons_mk (shut_int Try.underlying3 w2) (trodAll_cons_mk (Below.trod laidOut (by kernel_rfl) (of_decide_eq_true (by kernel_rfl)) k3 bel lt3) trodAll_mk0)))), rfl, bel.frame _, fun h => by cases h⟩

theorem over : Rows.watchPlaysRow.holds Try.pinned (OpenSpec.ofChange Rows.watchPlaysSpec) :=
  OpenClaim.holds_of_wide 8 Try.f8 rfl rfl rfl rfl rfl rfl rfl ⟨rfl, rfl, rfl, rfl, rfl⟩ rfl rfl rfl rfl rfl (by kernel_rfl) Try.func8 (by kernel_rfl)
    (of_decide_eq_true (by kernel_rfl)) (by unfold Func.isWrapper; first | (rw [if_pos (by decide +kernel)]; kernel_rfl) | (rw [if_neg (by decide +kernel)]; exact ⟨rfl, rfl⟩))
    (fun os started H enc _ => lifted os started H enc)
end Go.Proofs.Ytomjlhmkmihbeaa.WatchPlays

namespace Go.Proofs.Ytomjlhmkmihbeaa
theorem watchPlays_holds : Rows.WatchPlaysSaid := WatchPlays.over
#print axioms watchPlays_holds
end Go.Proofs.Ytomjlhmkmihbeaa
