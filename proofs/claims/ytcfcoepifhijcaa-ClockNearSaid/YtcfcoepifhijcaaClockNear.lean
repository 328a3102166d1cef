/-
  PROVED: casebooklaw10.ClockNear answers true and leaves its arguments as they were, for any numbers and any ints: the row's own reading and nothing else is assumed.
-/
import Derived.Test.YtcfcoepifhijcaaClockArgs
import Derived.Test.YtcfcoepifhijcaaClockW
import Derived.Test.YtcfcoepifhijcaaClockN
import Derived.Test.YtcfcoepifhijcaaDiskW
namespace Go.Proofs.Ytcfcoepifhijcaa.ClockNear
open Go.ChangeShapes Go.WideShapes Go.ChangeAt Go.RowKit

/-- The clocks at b show s; the rows vF and vG hold F and G, each in memory of its own; what lay below m stands. -/
structure St (m : Nat) (w0 : World) (b n : Nat) (s : CkS) (vF : Value) (p : Nat) (F : List Int) (vG : Value) (q : Nat) (G : List Int) (u : World) : Prop where
  ck : CkA u b n s
  rF : u.ownsRow m 3 1 vF p (intCells F)
  rG : u.ownsRow m 3 1 vG q (intCells G)
  ne : ∀ x, vF.ownBlock = some x → vG.ownBlock ≠ some x
  bel : Below m w0 u
  low : m ≤ b
  mm : m ≤ w0.heap.size
theorem if_start {c : Prop} [Decidable c] {F : List Int} (f : Nat → Nat) (h : c → F = []) : F = if c then rowL 0 f else F := by
  by_cases hc : c
  · rw [if_pos hc, h hc]; rfl
  · rw [if_neg hc]
theorem if_len {c : Prop} [Decidable c] {F F2 : List Int} {j p n : Nat} {f : Nat → Nat} (h : F2 = if c then rowL j f else F) (hp : p = F2.length) (hj : j ≤ n) (hn : n ≤ 5) (hF : F.length ≤ 5) : p ≤ 5 := by
  subst h
  rw [hp]
  split
  · rw [rowL_len]; omega
  · exact hF
theorem own_kind {u : World} {m : Nat} {v : Value} {k : Nat} {xs : List Value} (h : u.ownsRow m 3 1 v k xs) {x : Nat} (hx : v.ownBlock = some x) : m ≤ x ∧ x < u.heap.size ∧ ∃ cs, u.heap[x]? = some (.cells cs 3 (0, 0)) := by
  refine ⟨(h.lt x hx).1, (h.lt x hx).2, ?_⟩
  rcases h.2 with ⟨rfl, _⟩ | ⟨g, cap, cur, rfl, hg, hh, _⟩
  · simp [Value.ownBlock] at hx
  · obtain rfl : g = x := by simpa [Value.ownBlock] using hx
    exact ⟨_, hh⟩
theorem own_ck {u : World} {m : Nat} {v : Value} {k : Nat} {xs : List Value} (h : u.ownsRow m 3 1 v k xs) {b n : Nat} {f g : Nat → Nat} (hc : Ck u b n f g) : v.ownBlock ≠ some b := fun hx => by
  obtain ⟨_, _, cs, hh⟩ := own_kind h hx
  have := hh.symm.trans hc.blk
  simp at this
section
variable {m : Nat} {w0 u u' : World} {b n : Nat} {s s' : CkS} {vF vG : Value} {p q : Nat} {F G : List Int}
theorem St.size (H : St m w0 b n s vF p F vG q G u) : m ≤ u.heap.size := Nat.le_trans H.mm H.bel.size
theorem St.on (H : St m w0 b n s vF p F vG q G u) (hb : Below u.heap.size u u') : St m w0 b n s vF p F vG q G u' :=
  ⟨H.ck.on hb, ownsRow_on H.rF fun x hx => hb.block x (own_kind H.rF hx).2.1, ownsRow_on H.rG fun x hx => hb.block x (own_kind H.rG hx).2.1, H.ne, H.bel.trans (hb.mono H.size), H.low, H.mm⟩
theorem St.pl (H : St m w0 b n s vF p F vG q G u) : p = F.length := by have := H.rF.1; simp [intCells] at this; omega
theorem St.ql (H : St m w0 b n s vF p F vG q G u) : q = G.length := by have := H.rG.1; simp [intCells] at this; omega
theorem St.drewN (H : St m w0 b n s vF p F vG q G u) (z : Nat) : St m w0 b n s vF p F vG q G (u.drewN z) :=
  ⟨H.ck.drewN z, ownsRow_on H.rF fun _ _ => rfl, ownsRow_on H.rG fun _ _ => rfl, H.ne, (Only.drewN (fun _ => False) u z).below H.bel (fun _ h => h.elim) H.size, H.low, H.mm⟩
theorem St.one (H : St m w0 b n s vF p F vG q G u) (hc : CkA u' b n s') (ho : Only (· = b) u u') : St m w0 b n s' vF p F vG q G u' :=
  ⟨hc, ownsRow_on H.rF fun x hx => ho.block x (own_kind H.rF hx).2.1 (fun e => own_ck H.rF H.ck (e ▸ hx)), ownsRow_on H.rG fun x hx => ho.block x (own_kind H.rG hx).2.1 (fun e => own_ck H.rG H.ck (e ▸ hx)), H.ne, ho.below H.bel (fun _ hx => hx ▸ H.low) H.size, H.low, H.mm⟩
theorem St.tick (H : St m w0 b n s vF p F vG q G u) (k : Int) {t : Nat} (hu : s.upto t) (hl : t < maxLen) {r : Bool} (hr : canT n s k = r) :
    Calls Try.prog 9 #[.pointer (some ⟨b, 0, none⟩), .int .i64 k] u fun e u' => e = .returned (.bool r) ∧ Hid (St m w0 b n (tickS n s k) vF p F vG q G u') :=
  (cktick H.ck k hu hl hr).mono fun _ _ ⟨he, hc, ho⟩ => ⟨he, H.one hc ho⟩
theorem St.round (H : St m w0 b n s vF p F vG q G u) {r : Bool} (hr : canR n s = r) :
    Calls Try.prog 11 #[.pointer (some ⟨b, 0, none⟩)] u fun e u' => e = .returned (.bool r) ∧ Hid (St m w0 b n (roundS n s) vF p F vG q G u') :=
  (ckround H.ck hr).mono fun _ _ ⟨he, hc, ho⟩ => ⟨he, H.one hc ho⟩
theorem St.appF (H : St m w0 b n s vF p F vG q G u) {v' : Value} {y : Int} (hown : u'.ownsRow m 3 1 v' (p + 1) (intCells F ++ intCells [y])) (hg : u.grownBy u' vF.ownBlock) (hl : ∀ x, v'.ownBlock = some x → vF.ownBlock = some x ∨ u.heap.size ≤ x) :
    St m w0 b n s v' (p + 1) (F ++ [y]) vG q G u' := by
  refine ⟨⟨(hg.block b H.ck.lt fun e => own_ck H.rF H.ck e.symm).trans H.ck.blk, H.ck.pos, H.ck.le⟩, ?_, ownsRow_on H.rG fun x hx => hg.block x (own_kind H.rG hx).2.1 fun e => H.ne x e.symm hx, fun x hx he => ?_, H.bel.grown hg H.size (fun x hx => (own_kind H.rF hx).1), H.low, H.mm⟩
  · rw [← cells_app]; exact hown
  · rcases hl x hx with h | h
    · exact H.ne x h he
    · have := (own_kind H.rG he).2.1; omega
theorem St.appG (H : St m w0 b n s vF p F vG q G u) {v' : Value} {y : Int} (hown : u'.ownsRow m 3 1 v' (q + 1) (intCells G ++ intCells [y])) (hg : u.grownBy u' vG.ownBlock) (hl : ∀ x, v'.ownBlock = some x → vG.ownBlock = some x ∨ u.heap.size ≤ x) :
    St m w0 b n s vF p F v' (q + 1) (G ++ [y]) u' := by
  refine ⟨⟨(hg.block b H.ck.lt fun e => own_ck H.rG H.ck e.symm).trans H.ck.blk, H.ck.pos, H.ck.le⟩, ownsRow_on H.rF fun x hx => hg.block x (own_kind H.rF hx).2.1 fun e => H.ne x hx e.symm, ?_, fun x hx he => ?_, H.bel.grown hg H.size (fun x hx => (own_kind H.rG hx).1), H.low, H.mm⟩
  · rw [← cells_app]; exact hown
  · rcases hl x he with h | h
    · exact H.ne x hx h
    · have := (own_kind H.rF hx).2.1; omega
end

/-- The two rows, as they are read. -/
structure Rd (m : Nat) (w0 : World) (n : Nat) (s0 s1 : CkS) (bF oF bG oG : Nat) (u : World) : Prop where
  cF : ∀ j, j < n → u.cell? ⟨bF, oF + j, none⟩ = some (.int .i64 (s0.f j : Nat))
  cG : ∀ j, j < n → u.cell? ⟨bG, oG + j, none⟩ = some (.int .i64 (s1.f j : Nat))
  bel : Below m w0 u
  mm : m ≤ w0.heap.size
theorem Rd.drewN {m : Nat} {w0 : World} {n : Nat} {s0 s1 : CkS} {bF oF bG oG : Nat} {u : World} (H : Rd m w0 n s0 s1 bF oF bG oG u) (z : Nat) : Rd m w0 n s0 s1 bF oF bG oG (u.drewN z) :=
  ⟨H.cF, H.cG, (Only.drewN (fun _ => False) u z).below H.bel (fun _ h => h.elim) (Nat.le_trans H.mm H.bel.size), H.mm⟩
theorem row_read {u : World} {m : Nat} {a : Option Addr} {p c n : Nat} {F : List Int} {f : Nat → Nat} (h : u.ownsRow m 3 1 (.slice a p c) p (intCells F)) (hF : F = rowL n f) (hn : 0 < n) : ∃ b o, a = some ⟨b, o, none⟩ ∧ ∀ j, j < n → u.cell? ⟨b, o + j, none⟩ = some (.int .i64 (f j : Nat)) := by
  obtain ⟨_, _, hv, _, _, _, hc⟩ := ints_own h (Nat.le_refl _)
  cases hv
  have hl : F.length = n := by rw [hF, rowL_len]
  obtain ⟨b, o, he, _, hx⟩ := hc (List.length_pos_iff.1 (by omega))
  refine ⟨b, o, he, fun j hj => ?_⟩
  rw [hx j (by omega), hF, rowL_get f hj]

/-- The inner loop's head: j numbers of this step's are noted. -/
def NIn (m : Nat) (w : World) (n : Nat) (s : CkS) (i fr tt : Nat) (F G : List Int) (s14 s15 s17 : Value) (wr : World) : Prop :=
  ∃ (j p q : Nat) (aF : Option Addr) (cF : Nat) (aG : Option Addr) (cG : Nat) (F2 G2 : List Int), s14 = .slice aF p cF ∧ s15 = .slice aG q cG ∧ s17 = .int .i64 j ∧ j ≤ n ∧ p ≤ 10 ∧ q ≤ 10 ∧ Hid (F2 = if i = fr then rowL j s.f else F) ∧ Hid (G2 = if i = tt then rowL j s.f else G) ∧ Hid (St m w m n s (.slice aF p cF) p F2 (.slice aG q cG) q G2 wr)

set_option maxRecDepth 100000 in
set_option maxHeartbeats 8000000 in
theorem main (z : Int) (a : Option Addr) (len c : Nat) (l : List Int) (za zb : Int) (w : World) (hI : Ints w w.heap.size (.slice a len c) l) :
    Calls Try.prog 6 #[.int .i64 z, .slice a len c, .int .i64 za, .int .i64 zb] w fun e w' => e = .returned (.bool true) ∧ Below w.heap.size w w' := by
  have HT := Lib.hid (fun u => told10_any u)
  obtain ⟨i0, hi, hz0, hz1, hz2⟩ := info_parts cinfo_int
  obtain ⟨r, hr, er⟩ := left_of z 5 (by decide) (by decide)
  have E1 : Hid (wrap64 ((IntKind.u64.wrap z).tmod 5) = (r : Int)) := er
  clear er
  obtain ⟨fr, hfr, er⟩ := left_of za 121 (by decide) (by decide)
  have E3 : Hid (wrap64 ((IntKind.u64.wrap za).tmod 121) = (fr : Int)) := er
  clear er
  obtain ⟨tt, htt, er⟩ := left_of zb 121 (by decide) (by decide)
  have E4 : Hid (wrap64 ((IntKind.u64.wrap zb).tmod 121) = (tt : Int)) := er
  clear er
  obtain ⟨n, hn⟩ : ∃ n, n = r + 1 := ⟨_, rfl⟩
  have E2 : Hid (wrap64 (1 + (r : Int)) = (n : Int)) := Lib.hid (by rw [IntWalk.wrap64_in _ (by omega)]; omega)
  have H19 := Lib.hid (show 0 < n ∧ n ≤ 5 from ⟨by omega, by omega⟩)
  have HN := Lib.hid (cknew_yes n w H19.out.1 (by omega))
  have KU := Lib.hid (show IntKind.u64.wrap (n : Int) = (n : Int) by rw [IntKind.wrap_u64]; omega)
  obtain ⟨_, _, hv, hcap, hmax, _, hcells⟩ := hI
  cases hv
  obtain ⟨len, hl⟩ : ∃ len, len = l.length := ⟨_, rfl⟩
  obtain ⟨m, hm⟩ : ∃ m, m = w.heap.size := ⟨_, rfl⟩
  rw [← hl] at hcap ⊢
  rw [← hm] at hcells ⊢
  have HL := Lib.hid hl
  have HC := Lib.hid hcells
  have HM := Lib.hid hm
  have HFT := Lib.hid (And.intro hfr htt)
  clear hcells hl hcap hmax hr hn hfr htt
  go_enter Try.func6, Try.ntmps6
  go_wp2_with fail
  rw [E1.out, E2.out]
  clear E1 E2
  refine HN.out.mono ?_
  rintro e w1 ⟨rfl, C1, B1⟩
  rw [← hm] at C1 B1 ⊢
  have HC1 : Hid (CkA w1 m n .zero) := C1
  have HB1 := Lib.hid B1
  clear C1 B1 HN hm
  by_cases h120 : 120 < len
  · go_wp2_with fail
    refine (HT.out _).mono ?_
    rintro e w2 ⟨rfl, B2⟩
    have HB2 := Lib.hid (HB1.out.trans (B2.mono (by have := HB1.out.size; have := HM.out; omega)))
    clear B2
    go_wp2
    go_returns
    exact ⟨rfl, HB2.out⟩
  · have S0 : Hid (St m w m n .zero (.slice none 0 0) 0 [] (.slice none 0 0) 0 [] w1) := ⟨HC1.out, World.ownsRow_nil _ _ _ _, World.ownsRow_nil _ _ _ _, fun x hx => by simp [Value.ownBlock] at hx, HB1.out, Nat.le_refl _, Nat.le_of_eq HM.out⟩
    have h121 : len ≤ 120 := by omega
    have HLN := Lib.hid h121
    clear HC1 HB1
    go_wp2_with fail
    rw [E3.out, E4.out]
    go_loopw [14, 15, 16] (fun s14 s15 s16 wr => ∃ (i p q : Nat) (aF : Option Addr) (cF : Nat) (aG : Option Addr) (cG : Nat) (s : CkS) (F G : List Int), s14 = .slice aF p cF ∧ s15 = .slice aG q cG ∧ s16 = .int .i64 i ∧ i ≤ len + 1 ∧ p ≤ 5 ∧ q ≤ 5 ∧ Hid (s.upto i) ∧ Hid (TwoG n s) ∧ Hid (Noted n fr tt i s F G) ∧ Hid (St m w m n s (.slice aF p cF) p F (.slice aG q cG) q G wr)) (fun _ _ s16 _ => 200 - (intOf s16).toNat)
    case atStart => exact ⟨0, 0, 0, none, 0, none, 0, .zero, [], [], rfl, rfl, rfl, by omega, by omega, by omega, upto_zero, two_zero n, ⟨fun _ => rfl, fun _ => rfl, fun h => absurd h (by omega), fun h => absurd h (by omega), fun _ h => absurd h (by omega)⟩, S0.out⟩
    case round =>
      clear S0
      obtain ⟨i, p, q, aF, cF, aG, cG, s, F, G, rfl, rfl, rfl, hil, hp, hq, HU, H2, HNo, HS⟩ := hrel
      have n5 := H19.out.2
      by_cases hle : i ≤ len
      · have i1 : (i : Int) ≤ (len : Int) := by omega
        go_wp2_with fail
        have HFL := Lib.hid (show F.length ≤ 5 from HS.out.pl ▸ hp)
        have HGL := Lib.hid (show G.length ≤ 5 from HS.out.ql ▸ hq)
        obtain ⟨wo, hwo⟩ : ∃ wo, wo = wr := ⟨_, rfl⟩
        subst hwo
        go_loopw [14, 15, 17] (fun s14 s15 s17 wr => NIn m w n s i fr tt F G s14 s15 s17 wr) (fun _ _ s17 _ => n - (intOf s17).toNat)
        case atStart => exact ⟨0, p, q, _, _, _, _, F, G, rfl, rfl, rfl, Nat.zero_le _, by omega, by omega, (show _ = _ from if_start s.f fun h => HNo.out.f0 (by omega)), (show _ = _ from if_start s.f fun h => HNo.out.g0 (by omega)), HS.out⟩
        case round =>
          clear HS
          obtain ⟨j, p, q, aF, cF, aG, cG, F2, G2, rfl, rfl, rfl, hj, hp, hq, HF, HG, HS⟩ := hrel
          have hp5 : p ≤ 5 := if_len HF.out HS.out.pl hj n5 HFL.out
          have hq5 : q ≤ 5 := if_len HG.out HS.out.ql hj n5 HGL.out
          by_cases hjn : j < n
          · have j1 : (j : Int) < (n : Int) := by omega
            by_cases hfe : i = fr
            · have e1 : ((i : Int) == (fr : Int)) = true := beq_iff_eq.2 (by omega)
              have HFE := Lib.hid hfe
              clear hfe
              by_cases hge : i = tt
              · have e2 : ((i : Int) == (tt : Int)) = true := beq_iff_eq.2 (by omega)
                have HGE := Lib.hid hge
                clear hge
                go_wp2_with fail
                refine (ckat_yes HS.out.ck j hjn).mono ?_
                rintro e wy ⟨rfl, rfl⟩
                go_wp2_with (at_builtin; refine wpList_append_own_at rfl (.tmp 73) (.tmp 77) 22 22 rfl m 3 i0 (.int .i64 0) 1 8 Try.underlying22 hi hz0 hz1 hz2 rfl _ _ _ rfl (HS.out.on ((Below.refl _ _).alloc (Nat.le_refl _) _)).rF _ 1 (intCells [((s.f j : Nat) : Int)]) rfl (csrc1 wr _) ?c3 ?c4 ?c5 ?_)
                case c3 => unfold maxLen; omega
                case c4 => omega
                case c5 => have := HS.out.size; simp; omega
                intro v' w2 hown' hgrow hloc
                obtain ⟨a1, c1, rfl⟩ := own_shape hown'
                have HS2 : Hid (St m w m n s (.slice a1 (p + 1) c1) (p + 1) (F2 ++ [((s.f j : Nat) : Int)]) (.slice aG q cG) q G2 w2) := (HS.out.on ((Below.refl _ _).alloc (Nat.le_refl _) (.cells #[.int .i64 ((s.f j : Nat) : Int)] 3))).appF hown' hgrow (fun x hx => by simpa using hloc x hx)
                clear hown' hgrow hloc
                go_wp2_with fail
                refine (ckat_yes HS2.out.ck j hjn).mono ?_
                rintro e wz ⟨rfl, rfl⟩
                go_wp2_with (at_builtin; refine wpList_append_own_at rfl (.tmp 82) (.tmp 86) 22 22 rfl m 3 i0 (.int .i64 0) 1 8 Try.underlying22 hi hz0 hz1 hz2 rfl _ _ _ rfl (HS2.out.on ((Below.refl _ _).alloc (Nat.le_refl _) _)).rG _ 1 (intCells [((s.f j : Nat) : Int)]) rfl (csrc1 w2 _) ?c3 ?c4 ?c5 ?_)
                case c3 => unfold maxLen; omega
                case c4 => omega
                case c5 => have := HS2.out.size; simp; omega
                intro v' w3 hown' hgrow hloc
                obtain ⟨a2, c2, rfl⟩ := own_shape hown'
                have HS3 : Hid (St m w m n s (.slice a1 (p + 1) c1) (p + 1) (F2 ++ [((s.f j : Nat) : Int)]) (.slice a2 (q + 1) c2) (q + 1) (G2 ++ [((s.f j : Nat) : Int)]) w3) := (HS2.out.on ((Below.refl _ _).alloc (Nat.le_refl _) (.cells #[.int .i64 ((s.f j : Nat) : Int)] 3))).appG hown' hgrow (fun x hx => by simpa using hloc x hx)
                clear hown' hgrow hloc
                go_wp2
                go_roundw
                case rel => exact ⟨j + 1, p + 1, q + 1, _, _, _, _, _, _, rfl, rfl, by go_num, by omega, by omega, by omega, (show _ = _ by have h := HF.out; rw [if_pos HFE.out] at h ⊢; rw [rowL_succ, ← h]), (show _ = _ by have h := HG.out; rw [if_pos HGE.out] at h ⊢; rw [rowL_succ, ← h]), HS3.out⟩
                case measure => simp [intOf]; omega
              · have e2 : ((i : Int) == (tt : Int)) = false := beq_eq_false_iff_ne.2 (by omega)
                go_wp2_with fail
                refine (ckat_yes HS.out.ck j hjn).mono ?_
                rintro e wy ⟨rfl, rfl⟩
                go_wp2_with (at_builtin; refine wpList_append_own_at rfl (.tmp 73) (.tmp 77) 22 22 rfl m 3 i0 (.int .i64 0) 1 8 Try.underlying22 hi hz0 hz1 hz2 rfl _ _ _ rfl (HS.out.on ((Below.refl _ _).alloc (Nat.le_refl _) _)).rF _ 1 (intCells [((s.f j : Nat) : Int)]) rfl (csrc1 wr _) ?c3 ?c4 ?c5 ?_)
                case c3 => unfold maxLen; omega
                case c4 => omega
                case c5 => have := HS.out.size; simp; omega
                intro v' w2 hown' hgrow hloc
                obtain ⟨a1, c1, rfl⟩ := own_shape hown'
                have HS2 : Hid (St m w m n s (.slice a1 (p + 1) c1) (p + 1) (F2 ++ [((s.f j : Nat) : Int)]) (.slice aG q cG) q G2 w2) := (HS.out.on ((Below.refl _ _).alloc (Nat.le_refl _) (.cells #[.int .i64 ((s.f j : Nat) : Int)] 3))).appF hown' hgrow (fun x hx => by simpa using hloc x hx)
                clear hown' hgrow hloc
                go_wp2
                go_roundw
                case rel => exact ⟨j + 1, p + 1, q, _, _, _, _, _, _, rfl, rfl, by go_num, by omega, by omega, by omega, (show _ = _ by have h := HF.out; rw [if_pos HFE.out] at h ⊢; rw [rowL_succ, ← h]), (show _ = _ by have h := HG.out; rw [if_neg hge] at h ⊢; exact h), HS2.out⟩
                case measure => simp [intOf]; omega
            · have e1 : ((i : Int) == (fr : Int)) = false := beq_eq_false_iff_ne.2 (by omega)
              by_cases hge : i = tt
              · have e2 : ((i : Int) == (tt : Int)) = true := beq_iff_eq.2 (by omega)
                have HGE := Lib.hid hge
                clear hge
                go_wp2_with fail
                refine (ckat_yes HS.out.ck j hjn).mono ?_
                rintro e wy ⟨rfl, rfl⟩
                go_wp2_with (at_builtin; refine wpList_append_own_at rfl (.tmp 82) (.tmp 86) 22 22 rfl m 3 i0 (.int .i64 0) 1 8 Try.underlying22 hi hz0 hz1 hz2 rfl _ _ _ rfl (HS.out.on ((Below.refl _ _).alloc (Nat.le_refl _) _)).rG _ 1 (intCells [((s.f j : Nat) : Int)]) rfl (csrc1 wr _) ?c3 ?c4 ?c5 ?_)
                case c3 => unfold maxLen; omega
                case c4 => omega
                case c5 => have := HS.out.size; simp; omega
                intro v' w2 hown' hgrow hloc
                obtain ⟨a2, c2, rfl⟩ := own_shape hown'
                have HS2 : Hid (St m w m n s (.slice aF p cF) p F2 (.slice a2 (q + 1) c2) (q + 1) (G2 ++ [((s.f j : Nat) : Int)]) w2) := (HS.out.on ((Below.refl _ _).alloc (Nat.le_refl _) (.cells #[.int .i64 ((s.f j : Nat) : Int)] 3))).appG hown' hgrow (fun x hx => by simpa using hloc x hx)
                clear hown' hgrow hloc
                go_wp2
                go_roundw
                case rel => exact ⟨j + 1, p, q + 1, _, _, _, _, _, _, rfl, rfl, by go_num, by omega, by omega, by omega, (show _ = _ by have h := HF.out; rw [if_neg hfe] at h ⊢; exact h), (show _ = _ by have h := HG.out; rw [if_pos HGE.out] at h ⊢; rw [rowL_succ, ← h]), HS2.out⟩
                case measure => simp [intOf]; omega
              · have e2 : ((i : Int) == (tt : Int)) = false := beq_eq_false_iff_ne.2 (by omega)
                have HF2 : Hid (F2 = if i = fr then rowL n s.f else F) := by show _ = _; have h := HF.out; rw [if_neg hfe] at h ⊢; exact h
                have HG2 : Hid (G2 = if i = tt then rowL n s.f else G) := by show _ = _; have h := HG.out; rw [if_neg hge] at h ⊢; exact h
                clear HF HG
                have HNt : Hid (∀ s' : CkS, (∀ s0, Near n s0 s → Near n s0 s') → Noted n fr tt (i + 1) s' F2 G2) := fun s' hn => by
                  have := HNo.out.note H2.out (HU.out.mono (by omega)) hn
                  rw [← HF2.out, ← HG2.out] at this
                  exact this
                clear HF2 HG2
                by_cases hlt : i < len
                · obtain ⟨xb, off, rfl, hxb, hc⟩ := HC.out (List.length_pos_iff.1 (by have := HL.out; omega))
                  have hq0 := hc i (by have := HL.out; omega)
                  clear hc
                  generalize l.getD i 0 = x at hq0
                  have q0 := (HS.out.bel.cell (p := ⟨xb, off + i, none⟩) hxb).trans hq0
                  have i1 : (i : Int) < (len : Int) := by omega
                  have i0' : (0 : Int) ≤ (i : Int) := by omega
                  have HLM := Lib.hid (show i < maxLen by unfold maxLen; omega)
                  obtain ⟨t, ht, et⟩ := left_of x n H19.out.1 (by have := H19.out.2; omega)
                  have HET := Lib.hid et
                  clear hq0 hxb et
                  have ku := KU.out
                  have n0 : ((n : Int) == 0) = false := beq_eq_false_iff_ne.2 (by have := H19.out.1; omega)
                  have n1 : (0 : Int) < (n : Int) := by have := H19.out.1; omega
                  have n2 : 0 < n := H19.out.1
                  have t0 : (0 : Int) ≤ (t : Int) := by omega
                  have t1 : (t : Int) < (n : Int) := by omega
                  have HA1 := Lib.hid (HNt.out (advS n s t) fun s0 h => adv_near h ht)
                  have HA2 := Lib.hid (adv_two H2.out ht)
                  have HA3 := Lib.hid (adv_upto HU.out (k := n) t)
                  by_cases hg : s.g t ≤ 1
                  · have HT3 := Lib.hid (HS.out.tick (t : Int) HU.out HLM.out (canT_yes ht hg))
                    have e1 : advS n s t = tickS n s t := by unfold advS; rw [if_pos (canT_yes ht hg)]
                    rw [e1] at HA1 HA2 HA3
                    generalize tickS n s t = s' at *
                    clear e1 hg HS
                    go_wp2_with fail
                    rw [HET.out]
                    refine HT3.out.mono ?_
                    rintro e w4 ⟨rfl, HS⟩
                    clear HT3 q0
                    go_wp2
                    go_roundw
                    case rel => exact ⟨i + 1, p, q, _, _, _, _, s', F2, G2, rfl, rfl, by go_num, by omega, by omega, by omega, HA3.out, HA2.out, HA1.out, HS.out⟩
                    case measure => simp [intOf]; omega
                  · have HT3 := Lib.hid (HS.out.tick (t : Int) HU.out HLM.out (canT_full (Nat.lt_of_not_le hg)))
                    have e0 : tickS n s t = s := by unfold tickS; rw [canT_full (Nat.lt_of_not_le hg), if_neg (by decide)]
                    rw [e0] at HT3
                    cases hr : canR n s with
                    | true =>
                      have e1 : advS n s t = tickS n (roundS n s) t := by unfold advS; rw [canT_full (Nat.lt_of_not_le hg), hr, if_neg (by decide), if_pos rfl]
                      rw [e1] at HA1 HA2 HA3
                      have HR4 := Lib.hid (fun (u : World) (hu : Hid (St m w m n s (.slice aF p cF) p F2 (.slice aG q cG) q G2 u)) => hu.out.round hr)
                      have HT5 := Lib.hid (fun (u : World) (hu : Hid (St m w m n (roundS n s) (.slice aF p cF) p F2 (.slice aG q cG) q G2 u)) => hu.out.tick (t : Int) HU.out.round HLM.out (canT_yes (n := n) ht (by rw [round_g hr]; exact Nat.zero_le _)))
                      generalize tickS n (roundS n s) t = s' at *
                      generalize roundS n s = s2 at *
                      clear e1 e0 hg hr HS
                      go_wp2_with fail
                      rw [HET.out]
                      refine HT3.out.mono ?_
                      rintro e w4 ⟨rfl, HS4⟩
                      clear HT3 q0
                      go_wp2_with fail
                      refine (HR4.out _ HS4).mono ?_
                      rintro e w5 ⟨rfl, HS5⟩
                      clear HR4 HS4
                      go_wp2_with fail
                      refine (HT5.out _ HS5).mono ?_
                      rintro e w6 ⟨rfl, HS⟩
                      clear HT5 HS5
                      go_wp2
                      go_roundw
                      case rel => exact ⟨i + 1, p, q, _, _, _, _, s', F2, G2, rfl, rfl, by go_num, by omega, by omega, by omega, HA3.out, HA2.out, HA1.out, HS.out⟩
                      case measure => simp [intOf]; omega
                    | false =>
                      have e1 : advS n s t = s := by unfold advS; rw [canT_full (Nat.lt_of_not_le hg), hr, if_neg (by decide), if_neg (by decide)]
                      have e2 : roundS n s = s := by unfold roundS; rw [hr, if_neg (by decide)]
                      rw [e1] at HA1 HA2 HA3
                      have HR4 := Lib.hid (fun (u : World) (hu : Hid (St m w m n s (.slice aF p cF) p F2 (.slice aG q cG) q G2 u)) => hu.out.round hr)
                      rw [e2] at HR4
                      clear e1 e0 e2 hg hr HS
                      go_wp2_with fail
                      rw [HET.out]
                      refine HT3.out.mono ?_
                      rintro e w4 ⟨rfl, HS4⟩
                      clear HT3 q0
                      go_wp2_with fail
                      refine (HR4.out _ HS4).mono ?_
                      rintro e w5 ⟨rfl, HS⟩
                      clear HR4 HS4
                      go_wp2
                      go_roundw
                      case rel => exact ⟨i + 1, p, q, _, _, _, _, s, F2, G2, rfl, rfl, by go_num, by omega, by omega, by omega, HA3.out, HA2.out, HA1.out, HS.out⟩
                      case measure => simp [intOf]; omega
                · have i1 : (len : Int) ≤ (i : Int) := by omega
                  have HA1 := Lib.hid (HNt.out s fun _ h => h)
                  go_wp2
                  go_roundw
                  case rel => exact ⟨i + 1, p, q, _, _, _, _, s, F2, G2, rfl, rfl, by go_num, by omega, by omega, by omega, HU.out.mono (by omega), H2.out, HA1.out, HS.out⟩
                  case measure => simp [intOf]; omega
          · have j1 : (n : Int) ≤ (j : Int) := by omega
            have hjn' : j = n := by omega
            have HF2 : Hid (F2 = if i = fr then rowL n s.f else F) := hjn' ▸ HF.out
            have HG2 : Hid (G2 = if i = tt then rowL n s.f else G) := hjn' ▸ HG.out
            clear HF HG hjn'
            have HNt : Hid (∀ s' : CkS, (∀ s0, Near n s0 s → Near n s0 s') → Noted n fr tt (i + 1) s' F2 G2) := fun s' hn => by
              have := HNo.out.note H2.out (HU.out.mono (by omega)) hn
              rw [← HF2.out, ← HG2.out] at this
              exact this
            clear HF2 HG2
            by_cases hlt : i < len
            · obtain ⟨xb, off, rfl, hxb, hc⟩ := HC.out (List.length_pos_iff.1 (by have := HL.out; omega))
              have hq0 := hc i (by have := HL.out; omega)
              clear hc
              generalize l.getD i 0 = x at hq0
              have q0 := (HS.out.bel.cell (p := ⟨xb, off + i, none⟩) hxb).trans hq0
              have i1 : (i : Int) < (len : Int) := by omega
              have i0' : (0 : Int) ≤ (i : Int) := by omega
              have HLM := Lib.hid (show i < maxLen by unfold maxLen; omega)
              obtain ⟨t, ht, et⟩ := left_of x n H19.out.1 (by have := H19.out.2; omega)
              have HET := Lib.hid et
              clear hq0 hxb et
              have ku := KU.out
              have n0 : ((n : Int) == 0) = false := beq_eq_false_iff_ne.2 (by have := H19.out.1; omega)
              have n1 : (0 : Int) < (n : Int) := by have := H19.out.1; omega
              have n2 : 0 < n := H19.out.1
              have t0 : (0 : Int) ≤ (t : Int) := by omega
              have t1 : (t : Int) < (n : Int) := by omega
              have HA1 := Lib.hid (HNt.out (advS n s t) fun s0 h => adv_near h ht)
              have HA2 := Lib.hid (adv_two H2.out ht)
              have HA3 := Lib.hid (adv_upto HU.out (k := n) t)
              by_cases hg : s.g t ≤ 1
              · have HT3 := Lib.hid (HS.out.tick (t : Int) HU.out HLM.out (canT_yes ht hg))
                have e1 : advS n s t = tickS n s t := by unfold advS; rw [if_pos (canT_yes ht hg)]
                rw [e1] at HA1 HA2 HA3
                generalize tickS n s t = s' at *
                clear e1 hg HS
                go_wp2_with fail
                rw [HET.out]
                refine HT3.out.mono ?_
                rintro e w4 ⟨rfl, HS⟩
                clear HT3 q0
                go_wp2
                go_roundw
                case rel => exact ⟨i + 1, p, q, _, _, _, _, s', F2, G2, rfl, rfl, by go_num, by omega, by omega, by omega, HA3.out, HA2.out, HA1.out, HS.out⟩
                case measure => simp [intOf]; omega
              · have HT3 := Lib.hid (HS.out.tick (t : Int) HU.out HLM.out (canT_full (Nat.lt_of_not_le hg)))
                have e0 : tickS n s t = s := by unfold tickS; rw [canT_full (Nat.lt_of_not_le hg), if_neg (by decide)]
                rw [e0] at HT3
                cases hr : canR n s with
                | true =>
                  have e1 : advS n s t = tickS n (roundS n s) t := by unfold advS; rw [canT_full (Nat.lt_of_not_le hg), hr, if_neg (by decide), if_pos rfl]
                  rw [e1] at HA1 HA2 HA3
                  have HR4 := Lib.hid (fun (u : World) (hu : Hid (St m w m n s (.slice aF p cF) p F2 (.slice aG q cG) q G2 u)) => hu.out.round hr)
                  have HT5 := Lib.hid (fun (u : World) (hu : Hid (St m w m n (roundS n s) (.slice aF p cF) p F2 (.slice aG q cG) q G2 u)) => hu.out.tick (t : Int) HU.out.round HLM.out (canT_yes (n := n) ht (by rw [round_g hr]; exact Nat.zero_le _)))
                  generalize tickS n (roundS n s) t = s' at *
                  generalize roundS n s = s2 at *
                  clear e1 e0 hg hr HS
                  go_wp2_with fail
                  rw [HET.out]
                  refine HT3.out.mono ?_
                  rintro e w4 ⟨rfl, HS4⟩
                  clear HT3 q0
                  go_wp2_with fail
                  refine (HR4.out _ HS4).mono ?_
                  rintro e w5 ⟨rfl, HS5⟩
                  clear HR4 HS4
                  go_wp2_with fail
                  refine (HT5.out _ HS5).mono ?_
                  rintro e w6 ⟨rfl, HS⟩
                  clear HT5 HS5
                  go_wp2
                  go_roundw
                  case rel => exact ⟨i + 1, p, q, _, _, _, _, s', F2, G2, rfl, rfl, by go_num, by omega, by omega, by omega, HA3.out, HA2.out, HA1.out, HS.out⟩
                  case measure => simp [intOf]; omega
                | false =>
                  have e1 : advS n s t = s := by unfold advS; rw [canT_full (Nat.lt_of_not_le hg), hr, if_neg (by decide), if_neg (by decide)]
                  have e2 : roundS n s = s := by unfold roundS; rw [hr, if_neg (by decide)]
                  rw [e1] at HA1 HA2 HA3
                  have HR4 := Lib.hid (fun (u : World) (hu : Hid (St m w m n s (.slice aF p cF) p F2 (.slice aG q cG) q G2 u)) => hu.out.round hr)
                  rw [e2] at HR4
                  clear e1 e0 e2 hg hr HS
                  go_wp2_with fail
                  rw [HET.out]
                  refine HT3.out.mono ?_
                  rintro e w4 ⟨rfl, HS4⟩
                  clear HT3 q0
                  go_wp2_with fail
                  refine (HR4.out _ HS4).mono ?_
                  rintro e w5 ⟨rfl, HS⟩
                  clear HR4 HS4
                  go_wp2
                  go_roundw
                  case rel => exact ⟨i + 1, p, q, _, _, _, _, s, F2, G2, rfl, rfl, by go_num, by omega, by omega, by omega, HA3.out, HA2.out, HA1.out, HS.out⟩
                  case measure => simp [intOf]; omega
            · have i1 : (len : Int) ≤ (i : Int) := by omega
              have HA1 := Lib.hid (HNt.out s fun _ h => h)
              go_wp2
              go_roundw
              case rel => exact ⟨i + 1, p, q, _, _, _, _, s, F2, G2, rfl, rfl, by go_num, by omega, by omega, by omega, HU.out.mono (by omega), H2.out, HA1.out, HS.out⟩
              case measure => simp [intOf]; omega
      · have hi1 : (len : Int) < (i : Int) := by omega
        have hpl := HS.out.pl
        have hql := HS.out.ql
        have n0 := H19.out.1
        by_cases hpn : p = n
        · have e1 : ((p : Int) == (n : Int)) = true := beq_iff_eq.2 (by omega)
          by_cases hqn : q = n
          · have e2 : ((q : Int) == (n : Int)) = true := beq_iff_eq.2 (by omega)
            by_cases hft : tt < fr
            · have e3 : (tt : Int) < (fr : Int) := by omega
              clear hpl hql e1 e2
              subst hpn
              subst hqn
              go_wp2_with fail
              refine (HT.out _).mono ?_
              rintro e w4 ⟨rfl, B4⟩
              have H4 := Lib.hid (HS.out.bel.trans (B4.mono HS.out.size))
              clear B4
              go_wp2
              go_returns
              exact ⟨rfl, H4.out⟩
            · have e3 : (fr : Int) ≤ (tt : Int) := by omega
              obtain ⟨s0, s1, hF, hG, hu0, hu1, hnear⟩ := HNo.out.both (by omega) (by
                rcases Nat.lt_or_ge tt i with h | h
                · exact h
                · have := HNo.out.g0 h
                  rw [this] at hql
                  simp at hql
                  omega)
              obtain ⟨bF, oF, rfl, hcF⟩ := row_read HS.out.rF hF n0
              obtain ⟨bG, oG, rfl, hcG⟩ := row_read HS.out.rG hG n0
              have HRd : Hid (Rd m w n s0 s1 bF oF bG oG wr) := ⟨hcF, hcG, HS.out.bel, HS.out.mm⟩
              have HNear := Lib.hid hnear
              have HU0 := Lib.hid hu0
              have HU1 := Lib.hid hu1
              clear HS HNo HU H2 hF hG hcF hcG hpl hql hnear hu0 hu1 hft
              clear e1 e2
              subst hpn
              subst hqn
              go_wp2_with fail
              obtain ⟨wo, hwo⟩ : ∃ wo, wo = wr := ⟨_, rfl⟩
              subst hwo
              go_loopw [19] (fun s19 wr => ∃ x : Nat, s19 = .int .i64 x ∧ x ≤ q ∧ Hid (Rd m w q s0 s1 bF oF bG oG wr)) (fun s19 _ => q - (intOf s19).toNat)
              case atStart => exact ⟨0, rfl, Nat.zero_le _, HRd.out⟩
              case round =>
                clear HRd
                obtain ⟨x, rfl, hx, HRd⟩ := hrel
                have n5 := H19.out.2
                by_cases hxn : x < q
                · have x1 : (x : Int) < (q : Int) := by omega
                  go_wp2_with fail
                  obtain ⟨wo, hwo⟩ : ∃ wo, wo = wr := ⟨_, rfl⟩
                  subst hwo
                  go_loopw [20] (fun s20 wr => ∃ y : Nat, s20 = .int .i64 y ∧ y ≤ q ∧ Hid (Rd m w q s0 s1 bF oF bG oG wr)) (fun s20 _ => q - (intOf s20).toNat)
                  case atStart => exact ⟨0, rfl, Nat.zero_le _, HRd.out⟩
                  case round =>
                    clear HRd
                    obtain ⟨y, rfl, hy, HRd⟩ := hrel
                    by_cases hyn : y < q
                    · have y1 : (y : Int) < (q : Int) := by omega
                      have x0 : (0 : Int) ≤ (x : Int) := by omega
                      have y0 : (0 : Int) ≤ (y : Int) := by omega
                      have cx0 := HRd.out.cF x hxn
                      have cx1 := HRd.out.cG x hxn
                      have cy0 := HRd.out.cF y hyn
                      have cy1 := HRd.out.cG y hyn
                      have hb1 := HU0.out x
                      have hb2 := HU0.out y
                      have hb3 := HU1.out x
                      have hb4 := HU1.out y
                      have hle := near_end HNear.out hxn hyn
                      have HRN := Lib.hid (fun z => HRd.out.drewN z)
                      by_cases hxy : x = y
                      · subst hxy
                        clear cy0 cy1 y1 y0 hb2 hb4
                        generalize s0.f x = fx at cx0 hb1 hle
                        generalize s1.f x = gx at cx1 hb3 hle
                        have v1 : IntKind.i64.wrap ((gx : Int) - (fx : Int)) = (gx : Int) - (fx : Int) := by rw [IntKind.wrap_i64]; omega
                        have v3 : IntKind.i64.wrap (2 * ((gx : Int) - (fx : Int))) = 2 * ((gx : Int) - (fx : Int)) := by rw [IntKind.wrap_i64]; omega
                        have v4 : IntKind.i64.wrap (2 * ((gx : Int) - (fx : Int)) + 4) = 2 * ((gx : Int) - (fx : Int)) + 4 := by rw [IntKind.wrap_i64]; omega
                        clear HRd hb1 hb3
                        go_wp2_with fail
                        go_quiet (fail)
                        go_wp2
                        go_roundw
                        case rel => exact ⟨x + 1, by go_num, by omega, HRN.out _⟩
                        case measure => simp [intOf]; omega
                      · generalize s0.f x = fx at cx0 hb1 hle
                        generalize s1.f x = gx at cx1 hb3 hle
                        have v1 : IntKind.i64.wrap ((gx : Int) - (fx : Int)) = (gx : Int) - (fx : Int) := by rw [IntKind.wrap_i64]; omega
                        generalize s0.f y = fy at cy0 hb2 hle
                        generalize s1.f y = gy at cy1 hb4 hle
                        have v2 : IntKind.i64.wrap ((gy : Int) - (fy : Int)) = (gy : Int) - (fy : Int) := by rw [IntKind.wrap_i64]; omega
                        have v3 : IntKind.i64.wrap (2 * ((gy : Int) - (fy : Int))) = 2 * ((gy : Int) - (fy : Int)) := by rw [IntKind.wrap_i64]; omega
                        have v4 : IntKind.i64.wrap (2 * ((gy : Int) - (fy : Int)) + 4) = 2 * ((gy : Int) - (fy : Int)) + 4 := by rw [IntKind.wrap_i64]; omega
                        clear HRd hb1 hb2 hb3 hb4 hxy
                        go_wp2_with fail
                        go_quiet (fail)
                        go_wp2
                        go_roundw
                        case rel => exact ⟨y + 1, by go_num, by omega, HRN.out _⟩
                        case measure => simp [intOf]; omega
                    · have y1 : (q : Int) ≤ (y : Int) := by omega
                      go_wp2
                      go_roundw
                      case rel => exact ⟨x + 1, by go_num, by omega, HRd.out⟩
                      case measure => simp [intOf]; omega
                · have x1 : (q : Int) ≤ (x : Int) := by omega
                  go_wp2_with fail
                  refine (HT.out _).mono ?_
                  rintro e w4 ⟨rfl, B4⟩
                  have H4 := Lib.hid (HRd.out.bel.trans (B4.mono (Nat.le_trans HRd.out.mm HRd.out.bel.size)))
                  clear B4
                  go_wp2
                  go_returns
                  exact ⟨rfl, H4.out⟩
          · have e2 : ((q : Int) == (n : Int)) = false := beq_eq_false_iff_ne.2 (by omega)
            clear hpl hql e1
            subst hpn
            go_wp2_with fail
            refine (HT.out _).mono ?_
            rintro e w4 ⟨rfl, B4⟩
            have H4 := Lib.hid (HS.out.bel.trans (B4.mono HS.out.size))
            clear B4
            go_wp2
            go_returns
            exact ⟨rfl, H4.out⟩
        · have e1 : ((p : Int) == (n : Int)) = false := beq_eq_false_iff_ne.2 (by omega)
          clear hpl hql
          go_wp2_with fail
          refine (HT.out _).mono ?_
          rintro e w4 ⟨rfl, B4⟩
          have H4 := Lib.hid (HS.out.bel.trans (B4.mono HS.out.size))
          clear B4
          go_wp2
          go_returns
          exact ⟨rfl, H4.out⟩

theorem walk (n : Int) (v : Value) (l : List Int) (za zb : Int) (w : World) (_ : (Lit.int .i64 n).wf = true) (hI : Ints w w.heap.size v l) (_ : (Lit.int .i64 za).wf = true) (_ : (Lit.int .i64 zb).wf = true) :
    Calls Try.prog 6 #[.int .i64 n, v, .int .i64 za, .int .i64 zb] w fun e w' => e = .returned (.bool true) ∧ Below w.heap.size w w' := by
  obtain ⟨a, c, rfl, _⟩ := id hI
  exact main n a l.length c l za zb w hI

set_option maxRecDepth 100000 in
theorem lifted (os : Os) (started : os.Started) (H : Type) (enc : TypeId × Value → H) :
    ReturnsInHanded {} Try.checked os 6 .any (Rows.clockNearSpec.pre6 enc Try.prog Try.f6 Rows.clockNearRow.domain false) (Rows.clockNearSpec.post enc Try.prog Try.f6 false true false false) := by
  refine returnsInHanded_of_change (C := Try.checked) own started (by kernel_rfl) Try.func6
    (ChangeSpec.witness6 (enc := enc) (C := Try.checked) false ⟨#[], #[.int .i64 0, .slice none 0 0, .int .i64 0, .int .i64 0], []⟩ 8 (by kernel_rfl) (by kernel_rfl) (by kernel_rfl) (by kernel_rfl)) ?_
  intro W base args ds gs before hval0 hW hcnd _
  have hval : ∀ (j : Nat) t v, Try.f6.params[j]? = some t → args[j]? = some v → Value.okWide Try.prog W .any base t v := hval0
  have hW' := hW
  obtain ⟨p, q, hA0, hV, rfl, hfz, hnd⟩ := hW
  have hA : DataW.TrodAll enc Try.prog W 0 (fun _ => true) true Try.f6.params.toList args.toList ds p := hA0
  rw [Try.params6] at hA hval
  obtain ⟨v0, vs0, d0, ds0, p0, q0, hargs, rfl, rfl, h0, r0⟩ := trodAll_cons hA
  obtain ⟨v1, vs1, d1, ds1, p1, q1, rfl, rfl, rfl, h1, r1⟩ := trodAll_cons r0
  obtain ⟨v2, vs2, d2, ds2, p2, q2, rfl, rfl, rfl, h2, r2⟩ := trodAll_cons r1
  obtain ⟨v3, vs3, d3, ds3, p3, q3, rfl, rfl, rfl, h3, r3⟩ := trodAll_cons r2
  obtain ⟨rfl, rfl, rfl⟩ := trodAll_nil r3
  obtain rfl : args = #[v0, v1, v2, v3] := by cases args; simp_all
  obtain ⟨rfl, rfl⟩ := trodVars_none hV
  obtain ⟨a0, rfl, rfl, rfl, w0⟩ := open_int Try.underlying3 (hval 0 3 v0 rfl rfl) h0
  obtain ⟨a1, len1, cap1, rfl⟩ := okWide_slice Try.underlying22 (hval 1 22 v1 rfl rfl)
  have k1 := h1
  have lt1 : ∀ x ∈ p1, x.block < W.heap.size := by obtain ⟨m, hm⟩ := k1; exact DataW.trod_lt m _ _ _ hm
  obtain ⟨l1, w1⟩ := cints_open h1
  obtain ⟨a2, rfl, rfl, rfl, w2⟩ := open_int Try.underlying3 (hval 2 3 v2 rfl rfl) h2
  obtain ⟨a3, rfl, rfl, rfl, w3⟩ := open_int Try.underlying3 (hval 3 3 v3 rfl rfl) h3
  clear hA0 hval0
  refine (walk a0 (.slice a1 len1 cap1) l1 a2 a3 W w0 w1 w2 w3).mono fun e W' ⟨he, bel⟩ => ?_
  subst he
  exact ⟨_, rfl, _, _, _, [], _, [], hW', trodAll_mk1 (shut_bool Try.underlying4 _), (trodAll_cons_mk (shut_int Try.underlying3 w0) (trodAll_cons_mk (Below.trod laidOut (by kernel_rfl) (of_decide_eq_true (by kernel_rfl)) k1 bel lt1) (trodAll_cons_mk (shut_int Try.underlying3 w2) (trodAll_cons_mk (shut_int Try.underlying3 w3) trodAll_mk0)))), rfl, bel.frame _, fun h => by cases h⟩

theorem over : Rows.clockNearRow.holds Try.pinned (OpenSpec.ofChange Rows.clockNearSpec) :=
  OpenClaim.holds_of_wide 6 Try.f6 rfl rfl rfl rfl rfl rfl rfl ⟨rfl, rfl, rfl, rfl, rfl⟩ rfl rfl rfl rfl rfl (by kernel_rfl) Try.func6 (by kernel_rfl)
    (of_decide_eq_true (by kernel_rfl)) (by unfold Func.isWrapper; first | (rw [if_pos (by decide +kernel)]; kernel_rfl) | (rw [if_neg (by decide +kernel)]; exact ⟨rfl, rfl⟩))
    (fun os started H enc _ => lifted os started H enc)
end Go.Proofs.Ytcfcoepifhijcaa.ClockNear

namespace Go.Proofs.Ytcfcoepifhijcaa
theorem clockNear_holds : Rows.ClockNearSaid := ClockNear.over
#print axioms clockNear_holds
end Go.Proofs.Ytcfcoepifhijcaa
