/-
  THE REFERENCE's GetChain: the chain that the text is, or none. For texts of at most 1000 bytes.
-/
import Derived.Test.YtocedkdgmhegeaaItemRC2
import Derived.Test.YtocedkdgmhegeaaItemRGet
import Derived.Deep.AppendLies
import Derived.Deep.RegionLaw
namespace Go.Proofs.Ytocedkdgmhegeaa
open Go.RowKit

/-- The memory while the reference reads a chain: the reader, the result's block, the chain's block with its row. -/
structure GC (w v : World) (c : Nat) (st : Option (List UInt8)) (ep : Int) (ao : Option Addr) (n cap : Nat) (L : List Nat) : Prop where
  rd : RRdr v (w.heap.size + 1) st
  res : ChB v w.heap.size 0 (.slice none 0 0)
  q : ChB v c ep (.slice ao n cap)
  row : v.ownsRow (c + 1) 3 1 (.slice ao n cap) n (intCells (ofNats L))
  bel : Below w.heap.size w v
  hc : w.heap.size + 1 < c

theorem chb_grown {w w' : World} {b h : Nat} {ep : Int} {v : Value} (hq : ChB w b ep v) (hg : w.grownBy w' (some h)) (hne : b ≠ h) : ChB w' b ep v := by
  obtain ⟨e, hb⟩ := hq
  exact ⟨e, (hg.block b (lt_of_block hb) (fun e => hne (Option.some.inj e))).trans hb⟩

theorem GC.num {w v v' : World} {c : Nat} {st st' : Option (List UInt8)} {ep : Int} {ao : Option Addr} {n cap : Nat} {L : List Nat} (g : GC w v c st ep ao n cap L)
    (h1 : RRdr v' (w.heap.size + 1) st') (h2 : v.grownBy v' (some (w.heap.size + 1))) : GC w v' c st' ep ao n cap L :=
  ⟨h1, chb_grown g.res h2 (by omega), chb_grown g.q h2 (by have := g.hc; omega), own_grown g.row h2 (by have := g.hc; omega), g.bel.trans (grown_below h2 (by omega) g.rd.lt), g.hc⟩

theorem GC.drew {w v : World} {c : Nat} {st : Option (List UInt8)} {ep : Int} {ao : Option Addr} {n cap : Nat} {L : List Nat} (g : GC w v c st ep ao n cap L) : GC w v.drew c st ep ao n cap L :=
  ⟨g.rd.keep rfl, g.res, g.q, own_below g.row (Below.refl _ v).drew, g.bel.drew, g.hc⟩

theorem GC.keep {w v v' : World} {c : Nat} {st : Option (List UInt8)} {ep : Int} {ao : Option Addr} {n cap : Nat} {L : List Nat} (g : GC w v c st ep ao n cap L) (hb : Below v.heap.size v v') : GC w v' c st ep ao n cap L :=
  ⟨g.rd.keep (hb.block _ g.rd.lt), g.res.keep hb g.res.lt, g.q.keep hb g.q.lt, own_below g.row hb, g.bel.trans (hb.mono g.bel.size), g.hc⟩

/-- Behind an append onto the chain's row and the store of it. -/
theorem GC.more {w v v1 : World} {c x : Nat} {st : Option (List UInt8)} {ep : Int} {ao : Option Addr} {n cap : Nat} {L : List Nat} {o : Obj} (g : GC w v c st ep ao n cap L)
    {g' cap' : Nat} (hown : v1.ownsRow (c + 1) 3 1 (.slice (some ⟨g', 0, none⟩) (n + 1) cap') (n + 1) (intCells (ofNats L) ++ [.int .i64 x])) (hgrow : (v.alloc o).grownBy v1 (Value.slice ao n cap).ownBlock) :
    GC w (v1.setCell ⟨c, 1, none⟩ (.slice (some ⟨g', 0, none⟩) (n + 1) cap')) c st ep (some ⟨g', 0, none⟩) (n + 1) cap' (L ++ [x]) := by
  have hcb := g.hc
  have hcl := g.q.lt
  have hrow : ∀ k, (Value.slice ao n cap).ownBlock = some k → c + 1 ≤ k := fun k hk => (g.row.lt k hk).1
  have hb1 : Below (c + 1) v v1 := ((Below.refl (c + 1) v).alloc (by omega) o).grown hgrow (by simp; omega) hrow
  have e : intCells (ofNats (L ++ [x])) = intCells (ofNats L) ++ [.int .i64 x] := by simp [intCells, ofNats]
  have hq1 : ChB v1 c ep (.slice ao n cap) := g.q.keep hb1 (Nat.lt_succ_self _)
  have hs := grownBy_setCell v1 c 1 (.slice (some ⟨g', 0, none⟩) (n + 1) cap')
  have hr1 : RRdr v1 (w.heap.size + 1) st := g.rd.keep (hb1.block _ (by omega))
  have hs1 : ChB v1 w.heap.size 0 (.slice none 0 0) := g.res.keep hb1 (by omega)
  refine ⟨hr1.keep (hs.block _ hr1.lt (fun e => by have := Option.some.inj e; omega)), chb_grown hs1 hs (by omega), ?_, ?_, ?_, hcb⟩
  · obtain ⟨t, ht⟩ := hq1
    exact ⟨t, two_setCell1 ht⟩
  · rw [e]
    exact own_grown hown hs (Nat.lt_succ_self _)
  · exact (g.bel.trans (hb1.mono (by omega))).setCell (show w.heap.size ≤ c by omega) _

theorem ch_more {w v v1 : World} {c : Nat} {st : Option (List UInt8)} {ep : Int} {ao : Option Addr} {n cap : Nat} {L : List Nat} {o : Obj} (g : GC w v c st ep ao n cap L)
    (hgrow : (v.alloc o).grownBy v1 (Value.slice ao n cap).ownBlock) : ChB v1 c ep (.slice ao n cap) := by
  have hcl := g.q.lt
  exact g.q.keep (((Below.refl (c + 1) v).alloc (by omega) o).grown hgrow (by simp; omega) (fun k hk => (g.row.lt k hk).1)) (Nat.lt_succ_self _)
theorem one_news (w : World) (x : Nat) (e : TypeId) : ∀ j u, [Value.int .i64 (x : Int)][j]? = some u → (w.alloc (.cells #[.int .i64 (x : Int)] e)).cell? ((⟨w.heap.size, 0, none⟩ : Addr).add j) = some u := by
  intro j u hj
  match j, hj with
  | 0, hj => simp at hj; subst hj; simp [Addr.add]

def refC : CBounds := ⟨1099511627776, 5, 1099511627776⟩
theorem refC_wide : refC.wide := by unfold CBounds.wide refC; decide

theorem rList_le (M : Nat) : ∀ (k : Nat) (st : Option (List UInt8)), ∀ x ∈ (rList M k st).1, x ≤ M := by
  intro k
  induction k with
  | zero => intro st x hx; simp [rList] at hx
  | succ k ih =>
    intro st x hx
    simp only [rList, List.mem_cons] at hx
    rcases hx with rfl | hx
    · exact rNum_le M st
    · exact ih _ x hx

set_option maxHeartbeats 4000000 in
set_option maxRecDepth 100000 in
theorem refgetchain_bad (l : List UInt8) (w : World) (hlim : l.length ≤ 1000) (hng : ¬ goodC refC l) :
    Calls Try.prog 24 #[.string (txt l)] w fun e w' => e = .returned (.tuple #[.agg #[.int .i64 0, .slice none 0 0], .int .i64 2]) ∧ Below w.heap.size w w' := by
  obtain ⟨V1, s1, e1⟩ : ∃ V s, ch1 refC l = (V, s) := ⟨_, _, rfl⟩
  obtain ⟨N, s2, e2⟩ : ∃ V s, ch2 refC l = (V, s) := ⟨_, _, rfl⟩
  obtain ⟨LN, s3, e3⟩ : ∃ V s, ch3 refC l = (V, s) := ⟨_, _, rfl⟩
  have hgot : gotC refC l = ⟨V1, LN⟩ := by simp only [gotC, e1, e3]
  have hgood : goodC refC l ↔ s3 = some [] ∧ ChainV.may ⟨V1, ofNats LN⟩ := by simp only [goodC, hgot, e3, GotC.chain, ofNats]
  have f1 : rNum 1099511627776 (some l) = (V1, s1) := e1
  have f2 : rNum 5 s1 = (N, s2) := by rw [← e2, ch2, e1]; rfl
  have f3 : rList 1099511627776 N s2 = (LN, s3) := by rw [← e3, ch3, e2]; rfl
  have hNL : LN.length = N := by have := rList_length 1099511627776 N s2; rw [f3] at this; exact this
  have v1 := rNum_le 1099511627776 (some l)
  rw [f1] at v1
  have v2 := rNum_le 5 s1
  rw [f2] at v2
  simp only at v1 v2
  have m0 : ∀ t, some l = some t → t.length ≤ 1000 := by intro t ht; rw [← Option.some.inj ht]; exact hlim
  have m1 := rNum_len2 1099511627776 (some l) _ m0
  rw [f1] at m1
  have m2 := rNum_len2 5 s1 _ m1
  rw [f2] at m2
  have m3 := rList_len 1099511627776 _ N s2 m2
  rw [f3] at m3
  have P1 : Hid (∀ u, RRdr u (w.heap.size + 1) (some l) → Calls Try.prog 38 #[.pointer (some ⟨w.heap.size + 1, 0, none⟩), .int .u64 1099511627776] u fun e w' => e = .returned (.int .u64 V1) ∧ RRdr w' (w.heap.size + 1) s1 ∧ u.grownBy w' (some (w.heap.size + 1))) := by
    intro u hR
    have := refrnum_any (w.heap.size + 1) (some l) 1099511627776 u hR m0
    rwa [f1] at this
  have P2 : Hid (∀ u, RRdr u (w.heap.size + 1) s1 → Calls Try.prog 38 #[.pointer (some ⟨w.heap.size + 1, 0, none⟩), .int .u64 5] u fun e w' => e = .returned (.int .u64 N) ∧ RRdr w' (w.heap.size + 1) s2 ∧ u.grownBy w' (some (w.heap.size + 1))) := by
    intro u hR
    have := refrnum_any (w.heap.size + 1) s1 5 u hR m1
    rwa [f2] at this
  obtain ⟨T, hT⟩ : ∃ T, T = txt l := ⟨_, rfl⟩
  have HTE := Lib.hid hT
  rw [← hT]
  have HM2 := Lib.hid m2
  have HM3 := Lib.hid m3
  have HNL := Lib.hid hNL
  have HF3 := Lib.hid f3
  obtain ⟨i0, hi, hz0, hz1, hz2⟩ := info_parts info_int
  rw [hgood] at hng
  by_cases hE : s3 = some []
  case neg =>
    obtain ⟨E, hEE⟩ : ∃ E, E = rEnd s3 := ⟨_, rfl⟩
    have hb : 0 < E := by
      rw [hEE]
      cases s3 with
      | none => decide
      | some t =>
        cases t with
        | nil => exact absurd rfl hE
        | cons => show (0 : Int) < 9; decide
    have HEE := Lib.hid hEE
    clear hE hng hEE hlim e1 e2 e3 f1 f2 f3 m0 m1 m2 m3 hgot hgood hNL hT
    go_enter Try.func24, Try.ntmps24
    have hR0 : RRdr ((w.alloc (.cells #[.int .i64 0, .slice none 0 0] 38)).alloc (.cells #[.string T, .bool false] 68)) (w.heap.size + 1) (some l) := by
      rw [HTE.out]
      have h1 := heap_alloc_new (w.alloc (.cells #[.int .i64 0, .slice none 0 0] 38)) (.cells #[.string (txt l), .bool false] 68)
      rw [show (w.alloc (.cells #[.int .i64 0, .slice none 0 0] 38)).heap.size = w.heap.size + 1 by simp] at h1
      exact ⟨68, h1⟩
    have HR0 := Lib.hid hR0
    clear hR0
    go_wp2_with fail
    refine (P1.out _ HR0.out).mono ?_
    rintro e u1 ⟨rfl, R1, G1⟩
    have hb01 : Below (w.heap.size + 1) (w.alloc (.cells #[.int .i64 0, .slice none 0 0] 38)) u1 := ((Below.refl _ _).alloc (by simp) _).trans (grown_below G1 (Nat.le_refl _) (by simp))
    have RES1 : Hid (ChB u1 w.heap.size 0 (.slice none 0 0)) := (ChB.fresh w 0 (.slice none 0 0) 38).keep hb01 (Nat.lt_succ_self _)
    have C1 : Hid (Below w.heap.size w u1) := ((Below.refl _ w).alloc (Nat.le_refl _) _).trans (hb01.mono (by omega))
    have lt1 : w.heap.size + 1 < u1.heap.size := R1.lt
    have R1' : Hid (∀ o, RRdr (u1.alloc o) (w.heap.size + 1) s1) := fun o => R1.keep (((Below.refl _ _).alloc (Nat.le_refl _) o).block _ R1.lt)
    clear R1 G1 hb01
    go_wp2_with fail
    refine (P2.out _ (R1'.out _)).mono ?_
    rintro e u2 ⟨rfl, R2, G2⟩
    have g2 : GC w u2 u1.heap.size s2 V1 none 0 0 [] := by
      have ha : Below u1.heap.size u1 (u1.alloc (.cells #[.int .i64 V1, .slice none 0 0] 38)) := (Below.refl _ u1).alloc (Nat.le_refl _) _
      refine ⟨R2, chb_grown (RES1.out.keep ha RES1.out.lt) G2 (by omega), chb_grown (ChB.fresh u1 V1 (.slice none 0 0) 38) G2 (by omega), World.ownsRow_nil _ _ _ _, (C1.out.trans (ha.mono C1.out.size)).trans (grown_below G2 (by omega) (by simp; omega)), lt1⟩
    have HG2 := Lib.hid g2
    clear R2 G2 g2 R1'
    go_wp2
    go_loopw [7] (fun vi wr => ∃ (k : Nat) (ao : Option Addr) (cap : Nat), k ≤ N ∧ vi = .int .i64 k ∧ GC w wr u1.heap.size (rList 1099511627776 k s2).2 V1 ao k cap (rList 1099511627776 k s2).1) (fun vi _ => N - (intOf vi).toNat)
    case atStart => exact ⟨0, none, 0, by omega, rfl, HG2.out⟩
    case round =>
      obtain ⟨k, ao, cap, hk, rfl, hgc⟩ := hrel
      have HK := Lib.hid hgc
      obtain ⟨c0, c1⟩ := hgc.q.cells
      have z1 := hgc.q.free 1
      by_cases hlt : k < N
      · have HS := Lib.hid (rList_snoc 1099511627776 k s2)
        have HA : Hid (Calls Try.prog 38 #[.pointer (some ⟨w.heap.size + 1, 0, none⟩), .int .u64 1099511627776] wr.drew fun e w' => e = .returned (.int .u64 (rNum 1099511627776 (rList 1099511627776 k s2).2).1) ∧ RRdr w' (w.heap.size + 1) (rNum 1099511627776 (rList 1099511627776 k s2).2).2 ∧ wr.drew.grownBy w' (some (w.heap.size + 1))) :=
          refrnum_any (w.heap.size + 1) _ 1099511627776 wr.drew hgc.drew.rd (rList_len _ _ k s2 HM2.out)
        have hxl := rNum_le 1099511627776 (rList 1099511627776 k s2).2
        obtain ⟨x, s', hx⟩ : ∃ x s', rNum 1099511627776 (rList 1099511627776 k s2).2 = (x, s') := ⟨_, _, rfl⟩
        rw [hx] at HS HA hxl
        simp only at HS HA hxl
        have KD : Hid (∀ v', RRdr v' (w.heap.size + 1) s' → wr.drew.grownBy v' (some (w.heap.size + 1)) → GC w v' u1.heap.size s' V1 ao k cap (rList 1099511627776 k s2).1) := fun v' h1 h2 => HK.out.drew.num h1 h2
        have d0 : wr.drew.cell? ⟨u1.heap.size, 1, none⟩ = some (.slice ao k cap) := c1
        clear hx hgc
        have hwx : IntKind.i64.wrap (x : Int) = x := IntWalk.i64_in _ (by omega)
        go_wp2_with fail
        go_region_law (first
          | (refine step_append_lies _ (by rfl) (.tmp 24) (.tmp 28) 36 (by rfl) (u1.heap.size + 1) 3 i0 (.int .i64 0) 1 8 Try.underlying36 hi hz0 hz1 hz2 rfl (by decide) (.slice ao k cap) k (intCells (ofNats (rList 1099511627776 k s2).1)) (by rfl) (HK5.out.row.alloc _) ⟨v5.heap.size, 0, none⟩ 1 1 [.int .i64 (x : Int)] (by rfl) rfl (one_news v5 x _) (by simp [Value.oneCell']) (by decide) (by unfold maxLen; omega) (by omega) (by have := HK5.out.q.lt; simp; omega) _ rfl ?_; intro g cap' w6 hown6 hgrow6 hat6 hlt6; have HG6 := Lib.hid (HK5.out.more hown6 hgrow6); have q6 := ch_more HK5.out hgrow6; have d6 := q6.cells.2; have z6 := q6.free 1; clear hown6 hgrow6 hat6 hlt6 q6)
          | (go_simp; go_at_call 38; refine HA.out.mono ?_; rintro e v5 ⟨rfl, hR5, hG5⟩; have HK5 := Lib.hid (KD.out v5 hR5 hG5); have d5 := HK5.out.q.cells.2; have z5 := HK5.out.q.free 1; have a5 := fun o => (HK5.out.q.keep ((Below.refl _ _).alloc (Nat.le_refl _) o) HK5.out.q.lt).cells.2; have l5 := HK5.out.q.lt; clear hR5 hG5))
        all_goals
          clear d5 z5 a5 l5 d6 z6
          go_wp2
          go_roundw
          case rel => exact ⟨k + 1, _, _, by omega, by go_num, by rw [HS.out]; exact HG6.out⟩
          case measure => simp [intOf]; omega
      · have hkn : k = N := by omega
        subst hkn
        have HK' : Hid (GC w wr u1.heap.size s3 V1 ao k cap LN) := by
          have h := HK.out
          rw [HF3.out] at h
          exact h
        clear hgc
        have KE := Lib.hid (refrend_any (w.heap.size + 1) s3 wr HK'.out.rd HM3.out)
        rw [← HEE.out] at KE
        go_wp2_with fail
        refine KE.out.mono ?_
        rintro e v7 ⟨rfl, rfl⟩
        go_wp2_with (refine store_ch rfl (.tmp 2) (.tmp 39) rfl w.heap.size rfl 0 none 0 0 rfl HK'.out.res ?_)
        intro w8 H8 G8
        obtain ⟨d0, d1⟩ := H8.cells
        have BF : Hid (Below w.heap.size w w8) := HK'.out.bel.trans (grown_below G8 (Nat.le_refl _) HK'.out.res.lt)
        go_wp2
        refine bodyPost_ret (v := .tuple #[.agg #[.int .i64 0, .slice none 0 0], .int .i64 2]) (by simp [results, Try.results24, go_sem, d0, d1]) rfl ⟨rfl, BF.out⟩
  case pos =>
    have hnm : ¬ ChainV.may ⟨V1, ofNats LN⟩ := fun h => hng ⟨hE, h⟩
    have HV := Lib.hid (decide_eq_false hnm).symm
    have HEs := Lib.hid hE
    clear hnm hng hE hlim e1 e2 e3 f1 f2 f3 m0 m1 m2 m3 hgot hgood hNL hT
    go_enter Try.func24, Try.ntmps24
    have hR0 : RRdr ((w.alloc (.cells #[.int .i64 0, .slice none 0 0] 38)).alloc (.cells #[.string T, .bool false] 68)) (w.heap.size + 1) (some l) := by
      rw [HTE.out]
      have h1 := heap_alloc_new (w.alloc (.cells #[.int .i64 0, .slice none 0 0] 38)) (.cells #[.string (txt l), .bool false] 68)
      rw [show (w.alloc (.cells #[.int .i64 0, .slice none 0 0] 38)).heap.size = w.heap.size + 1 by simp] at h1
      exact ⟨68, h1⟩
    have HR0 := Lib.hid hR0
    clear hR0
    go_wp2_with fail
    refine (P1.out _ HR0.out).mono ?_
    rintro e u1 ⟨rfl, R1, G1⟩
    have hb01 : Below (w.heap.size + 1) (w.alloc (.cells #[.int .i64 0, .slice none 0 0] 38)) u1 := ((Below.refl _ _).alloc (by simp) _).trans (grown_below G1 (Nat.le_refl _) (by simp))
    have RES1 : Hid (ChB u1 w.heap.size 0 (.slice none 0 0)) := (ChB.fresh w 0 (.slice none 0 0) 38).keep hb01 (Nat.lt_succ_self _)
    have C1 : Hid (Below w.heap.size w u1) := ((Below.refl _ w).alloc (Nat.le_refl _) _).trans (hb01.mono (by omega))
    have lt1 : w.heap.size + 1 < u1.heap.size := R1.lt
    have R1' : Hid (∀ o, RRdr (u1.alloc o) (w.heap.size + 1) s1) := fun o => R1.keep (((Below.refl _ _).alloc (Nat.le_refl _) o).block _ R1.lt)
    clear R1 G1 hb01
    go_wp2_with fail
    refine (P2.out _ (R1'.out _)).mono ?_
    rintro e u2 ⟨rfl, R2, G2⟩
    have g2 : GC w u2 u1.heap.size s2 V1 none 0 0 [] := by
      have ha : Below u1.heap.size u1 (u1.alloc (.cells #[.int .i64 V1, .slice none 0 0] 38)) := (Below.refl _ u1).alloc (Nat.le_refl _) _
      refine ⟨R2, chb_grown (RES1.out.keep ha RES1.out.lt) G2 (by omega), chb_grown (ChB.fresh u1 V1 (.slice none 0 0) 38) G2 (by omega), World.ownsRow_nil _ _ _ _, (C1.out.trans (ha.mono C1.out.size)).trans (grown_below G2 (by omega) (by simp; omega)), lt1⟩
    have HG2 := Lib.hid g2
    clear R2 G2 g2 R1'
    go_wp2
    go_loopw [7] (fun vi wr => ∃ (k : Nat) (ao : Option Addr) (cap : Nat), k ≤ N ∧ vi = .int .i64 k ∧ GC w wr u1.heap.size (rList 1099511627776 k s2).2 V1 ao k cap (rList 1099511627776 k s2).1) (fun vi _ => N - (intOf vi).toNat)
    case atStart => exact ⟨0, none, 0, by omega, rfl, HG2.out⟩
    case round =>
      obtain ⟨k, ao, cap, hk, rfl, hgc⟩ := hrel
      have HK := Lib.hid hgc
      obtain ⟨c0, c1⟩ := hgc.q.cells
      have z1 := hgc.q.free 1
      by_cases hlt : k < N
      · have HS := Lib.hid (rList_snoc 1099511627776 k s2)
        have HA : Hid (Calls Try.prog 38 #[.pointer (some ⟨w.heap.size + 1, 0, none⟩), .int .u64 1099511627776] wr.drew fun e w' => e = .returned (.int .u64 (rNum 1099511627776 (rList 1099511627776 k s2).2).1) ∧ RRdr w' (w.heap.size + 1) (rNum 1099511627776 (rList 1099511627776 k s2).2).2 ∧ wr.drew.grownBy w' (some (w.heap.size + 1))) :=
          refrnum_any (w.heap.size + 1) _ 1099511627776 wr.drew hgc.drew.rd (rList_len _ _ k s2 HM2.out)
        have hxl := rNum_le 1099511627776 (rList 1099511627776 k s2).2
        obtain ⟨x, s', hx⟩ : ∃ x s', rNum 1099511627776 (rList 1099511627776 k s2).2 = (x, s') := ⟨_, _, rfl⟩
        rw [hx] at HS HA hxl
        simp only at HS HA hxl
        have KD : Hid (∀ v', RRdr v' (w.heap.size + 1) s' → wr.drew.grownBy v' (some (w.heap.size + 1)) → GC w v' u1.heap.size s' V1 ao k cap (rList 1099511627776 k s2).1) := fun v' h1 h2 => HK.out.drew.num h1 h2
        have d0 : wr.drew.cell? ⟨u1.heap.size, 1, none⟩ = some (.slice ao k cap) := c1
        clear hx hgc
        have hwx : IntKind.i64.wrap (x : Int) = x := IntWalk.i64_in _ (by omega)
        go_wp2_with fail
        go_region_law (first
          | (refine step_append_lies _ (by rfl) (.tmp 24) (.tmp 28) 36 (by rfl) (u1.heap.size + 1) 3 i0 (.int .i64 0) 1 8 Try.underlying36 hi hz0 hz1 hz2 rfl (by decide) (.slice ao k cap) k (intCells (ofNats (rList 1099511627776 k s2).1)) (by rfl) (HK5.out.row.alloc _) ⟨v5.heap.size, 0, none⟩ 1 1 [.int .i64 (x : Int)] (by rfl) rfl (one_news v5 x _) (by simp [Value.oneCell']) (by decide) (by unfold maxLen; omega) (by omega) (by have := HK5.out.q.lt; simp; omega) _ rfl ?_; intro g cap' w6 hown6 hgrow6 hat6 hlt6; have HG6 := Lib.hid (HK5.out.more hown6 hgrow6); have q6 := ch_more HK5.out hgrow6; have d6 := q6.cells.2; have z6 := q6.free 1; clear hown6 hgrow6 hat6 hlt6 q6)
          | (go_simp; go_at_call 38; refine HA.out.mono ?_; rintro e v5 ⟨rfl, hR5, hG5⟩; have HK5 := Lib.hid (KD.out v5 hR5 hG5); have d5 := HK5.out.q.cells.2; have z5 := HK5.out.q.free 1; have a5 := fun o => (HK5.out.q.keep ((Below.refl _ _).alloc (Nat.le_refl _) o) HK5.out.q.lt).cells.2; have l5 := HK5.out.q.lt; clear hR5 hG5))
        all_goals
          clear d5 z5 a5 l5 d6 z6
          go_wp2
          go_roundw
          case rel => exact ⟨k + 1, _, _, by omega, by go_num, by rw [HS.out]; exact HG6.out⟩
          case measure => simp [intOf]; omega
      · have hkn : k = N := by omega
        subst hkn
        have HK' : Hid (GC w wr u1.heap.size s3 V1 ao k cap LN) := by
          have h := HK.out
          rw [HF3.out] at h
          exact h
        clear hgc
        have KE := Lib.hid (refrend_any (w.heap.size + 1) s3 wr HK'.out.rd HM3.out)
        have KE0 : Hid (Calls Try.prog 40 #[.pointer (some ⟨w.heap.size + 1, 0, none⟩)] wr fun e w' => e = .returned (.int .i64 0) ∧ wr = w') := by
          have := KE.out
          rw [HEs.out] at this
          exact this
        go_wp2_with fail
        refine KE0.out.mono ?_
        rintro e v7 ⟨rfl, rfl⟩
        have WM := Lib.hid (refmaychain_r V1 (.slice ao k cap) (ofNats LN) wr.heap.size wr (ints_own HK'.out.row (Nat.le_refl _)) (Nat.le_refl _) false (show _ = _ from HV.out))
        go_wp2_with fail
        refine WM.out.mono ?_
        rintro e v8 ⟨rfl, B8⟩
        have G8' := Lib.hid (HK'.out.keep B8)
        clear B8 c0 c1 z1
        go_wp2_with (refine store_ch rfl (.tmp 2) (.tmp 39) rfl w.heap.size rfl 0 none 0 0 rfl G8'.out.res ?_)
        intro w8 H8 G8
        obtain ⟨d0, d1⟩ := H8.cells
        have BF : Hid (Below w.heap.size w w8) := G8'.out.bel.trans (grown_below G8 (Nat.le_refl _) G8'.out.res.lt)
        go_wp2
        refine bodyPost_ret (v := .tuple #[.agg #[.int .i64 0, .slice none 0 0], .int .i64 2]) (by simp [results, Try.results24, go_sem, d0, d1]) rfl ⟨rfl, BF.out⟩

set_option maxHeartbeats 4000000 in
set_option maxRecDepth 100000 in
theorem refgetchain_good (l : List UInt8) (w : World) (hlim : l.length ≤ 1000) (hg : goodC refC l) :
    Calls Try.prog 24 #[.string (txt l)] w fun e w' => ∃ v', e = .returned (.tuple #[.agg #[.int .i64 (gotC refC l).ep, v'], .int .i64 0]) ∧
      w'.ownsRow w.heap.size 3 1 v' (gotC refC l).nodes.length (intCells (ofNats (gotC refC l).nodes)) ∧ Below w.heap.size w w' := by
  obtain ⟨V1, s1, e1⟩ : ∃ V s, ch1 refC l = (V, s) := ⟨_, _, rfl⟩
  obtain ⟨N, s2, e2⟩ : ∃ V s, ch2 refC l = (V, s) := ⟨_, _, rfl⟩
  obtain ⟨LN, s3, e3⟩ : ∃ V s, ch3 refC l = (V, s) := ⟨_, _, rfl⟩
  have hgot : gotC refC l = ⟨V1, LN⟩ := by simp only [gotC, e1, e3]
  have hgood : goodC refC l ↔ s3 = some [] ∧ ChainV.may ⟨V1, ofNats LN⟩ := by simp only [goodC, hgot, e3, GotC.chain, ofNats]
  have f1 : rNum 1099511627776 (some l) = (V1, s1) := e1
  have f2 : rNum 5 s1 = (N, s2) := by rw [← e2, ch2, e1]; rfl
  have f3 : rList 1099511627776 N s2 = (LN, s3) := by rw [← e3, ch3, e2]; rfl
  have hNL : LN.length = N := by have := rList_length 1099511627776 N s2; rw [f3] at this; exact this
  have v1 := rNum_le 1099511627776 (some l)
  rw [f1] at v1
  have v2 := rNum_le 5 s1
  rw [f2] at v2
  simp only at v1 v2
  have m0 : ∀ t, some l = some t → t.length ≤ 1000 := by intro t ht; rw [← Option.some.inj ht]; exact hlim
  have m1 := rNum_len2 1099511627776 (some l) _ m0
  rw [f1] at m1
  have m2 := rNum_len2 5 s1 _ m1
  rw [f2] at m2
  have m3 := rList_len 1099511627776 _ N s2 m2
  rw [f3] at m3
  have P1 : Hid (∀ u, RRdr u (w.heap.size + 1) (some l) → Calls Try.prog 38 #[.pointer (some ⟨w.heap.size + 1, 0, none⟩), .int .u64 1099511627776] u fun e w' => e = .returned (.int .u64 V1) ∧ RRdr w' (w.heap.size + 1) s1 ∧ u.grownBy w' (some (w.heap.size + 1))) := by
    intro u hR
    have := refrnum_any (w.heap.size + 1) (some l) 1099511627776 u hR m0
    rwa [f1] at this
  have P2 : Hid (∀ u, RRdr u (w.heap.size + 1) s1 → Calls Try.prog 38 #[.pointer (some ⟨w.heap.size + 1, 0, none⟩), .int .u64 5] u fun e w' => e = .returned (.int .u64 N) ∧ RRdr w' (w.heap.size + 1) s2 ∧ u.grownBy w' (some (w.heap.size + 1))) := by
    intro u hR
    have := refrnum_any (w.heap.size + 1) s1 5 u hR m1
    rwa [f2] at this
  obtain ⟨T, hT⟩ : ∃ T, T = txt l := ⟨_, rfl⟩
  have HTE := Lib.hid hT
  rw [← hT]
  have HM2 := Lib.hid m2
  have HM3 := Lib.hid m3
  have HNL := Lib.hid hNL
  have HF3 := Lib.hid f3
  obtain ⟨i0, hi, hz0, hz1, hz2⟩ := info_parts info_int
  rw [hgood] at hg
  rw [hgot]
  simp only
  obtain ⟨hE, hm⟩ := hg
  have HV := Lib.hid (decide_eq_true hm).symm
  have HEs := Lib.hid hE
  clear hm hE hlim e1 e2 e3 f1 f2 f3 m0 m1 m2 m3 hgot hgood hNL hT
  go_enter Try.func24, Try.ntmps24
  have hR0 : RRdr ((w.alloc (.cells #[.int .i64 0, .slice none 0 0] 38)).alloc (.cells #[.string T, .bool false] 68)) (w.heap.size + 1) (some l) := by
    rw [HTE.out]
    have h1 := heap_alloc_new (w.alloc (.cells #[.int .i64 0, .slice none 0 0] 38)) (.cells #[.string (txt l), .bool false] 68)
    rw [show (w.alloc (.cells #[.int .i64 0, .slice none 0 0] 38)).heap.size = w.heap.size + 1 by simp] at h1
    exact ⟨68, h1⟩
  have HR0 := Lib.hid hR0
  clear hR0
  go_wp2_with fail
  refine (P1.out _ HR0.out).mono ?_
  rintro e u1 ⟨rfl, R1, G1⟩
  have hb01 : Below (w.heap.size + 1) (w.alloc (.cells #[.int .i64 0, .slice none 0 0] 38)) u1 := ((Below.refl _ _).alloc (by simp) _).trans (grown_below G1 (Nat.le_refl _) (by simp))
  have RES1 : Hid (ChB u1 w.heap.size 0 (.slice none 0 0)) := (ChB.fresh w 0 (.slice none 0 0) 38).keep hb01 (Nat.lt_succ_self _)
  have C1 : Hid (Below w.heap.size w u1) := ((Below.refl _ w).alloc (Nat.le_refl _) _).trans (hb01.mono (by omega))
  have lt1 : w.heap.size + 1 < u1.heap.size := R1.lt
  have R1' : Hid (∀ o, RRdr (u1.alloc o) (w.heap.size + 1) s1) := fun o => R1.keep (((Below.refl _ _).alloc (Nat.le_refl _) o).block _ R1.lt)
  clear R1 G1 hb01
  go_wp2_with fail
  refine (P2.out _ (R1'.out _)).mono ?_
  rintro e u2 ⟨rfl, R2, G2⟩
  have g2 : GC w u2 u1.heap.size s2 V1 none 0 0 [] := by
    have ha : Below u1.heap.size u1 (u1.alloc (.cells #[.int .i64 V1, .slice none 0 0] 38)) := (Below.refl _ u1).alloc (Nat.le_refl _) _
    refine ⟨R2, chb_grown (RES1.out.keep ha RES1.out.lt) G2 (by omega), chb_grown (ChB.fresh u1 V1 (.slice none 0 0) 38) G2 (by omega), World.ownsRow_nil _ _ _ _, (C1.out.trans (ha.mono C1.out.size)).trans (grown_below G2 (by omega) (by simp; omega)), lt1⟩
  have HG2 := Lib.hid g2
  clear R2 G2 g2 R1'
  go_wp2
  go_loopw [7] (fun vi wr => ∃ (k : Nat) (ao : Option Addr) (cap : Nat), k ≤ N ∧ vi = .int .i64 k ∧ GC w wr u1.heap.size (rList 1099511627776 k s2).2 V1 ao k cap (rList 1099511627776 k s2).1) (fun vi _ => N - (intOf vi).toNat)
  case atStart => exact ⟨0, none, 0, by omega, rfl, HG2.out⟩
  case round =>
    obtain ⟨k, ao, cap, hk, rfl, hgc⟩ := hrel
    have HK := Lib.hid hgc
    obtain ⟨c0, c1⟩ := hgc.q.cells
    have z1 := hgc.q.free 1
    by_cases hlt : k < N
    · have HS := Lib.hid (rList_snoc 1099511627776 k s2)
      have HA : Hid (Calls Try.prog 38 #[.pointer (some ⟨w.heap.size + 1, 0, none⟩), .int .u64 1099511627776] wr.drew fun e w' => e = .returned (.int .u64 (rNum 1099511627776 (rList 1099511627776 k s2).2).1) ∧ RRdr w' (w.heap.size + 1) (rNum 1099511627776 (rList 1099511627776 k s2).2).2 ∧ wr.drew.grownBy w' (some (w.heap.size + 1))) :=
        refrnum_any (w.heap.size + 1) _ 1099511627776 wr.drew hgc.drew.rd (rList_len _ _ k s2 HM2.out)
      have hxl := rNum_le 1099511627776 (rList 1099511627776 k s2).2
      obtain ⟨x, s', hx⟩ : ∃ x s', rNum 1099511627776 (rList 1099511627776 k s2).2 = (x, s') := ⟨_, _, rfl⟩
      rw [hx] at HS HA hxl
      simp only at HS HA hxl
      have KD : Hid (∀ v', RRdr v' (w.heap.size + 1) s' → wr.drew.grownBy v' (some (w.heap.size + 1)) → GC w v' u1.heap.size s' V1 ao k cap (rList 1099511627776 k s2).1) := fun v' h1 h2 => HK.out.drew.num h1 h2
      have d0 : wr.drew.cell? ⟨u1.heap.size, 1, none⟩ = some (.slice ao k cap) := c1
      clear hx hgc
      have hwx : IntKind.i64.wrap (x : Int) = x := IntWalk.i64_in _ (by omega)
      go_wp2_with fail
      go_region_law (first
        | (refine step_append_lies _ (by rfl) (.tmp 24) (.tmp 28) 36 (by rfl) (u1.heap.size + 1) 3 i0 (.int .i64 0) 1 8 Try.underlying36 hi hz0 hz1 hz2 rfl (by decide) (.slice ao k cap) k (intCells (ofNats (rList 1099511627776 k s2).1)) (by rfl) (HK5.out.row.alloc _) ⟨v5.heap.size, 0, none⟩ 1 1 [.int .i64 (x : Int)] (by rfl) rfl (one_news v5 x _) (by simp [Value.oneCell']) (by decide) (by unfold maxLen; omega) (by omega) (by have := HK5.out.q.lt; simp; omega) _ rfl ?_; intro g cap' w6 hown6 hgrow6 hat6 hlt6; have HG6 := Lib.hid (HK5.out.more hown6 hgrow6); have q6 := ch_more HK5.out hgrow6; have d6 := q6.cells.2; have z6 := q6.free 1; clear hown6 hgrow6 hat6 hlt6 q6)
        | (go_simp; go_at_call 38; refine HA.out.mono ?_; rintro e v5 ⟨rfl, hR5, hG5⟩; have HK5 := Lib.hid (KD.out v5 hR5 hG5); have d5 := HK5.out.q.cells.2; have z5 := HK5.out.q.free 1; have a5 := fun o => (HK5.out.q.keep ((Below.refl _ _).alloc (Nat.le_refl _) o) HK5.out.q.lt).cells.2; have l5 := HK5.out.q.lt; clear hR5 hG5))
      all_goals
        clear d5 z5 a5 l5 d6 z6
        go_wp2
        go_roundw
        case rel => exact ⟨k + 1, _, _, by omega, by go_num, by rw [HS.out]; exact HG6.out⟩
        case measure => simp [intOf]; omega
    · have hkn : k = N := by omega
      subst hkn
      have HK' : Hid (GC w wr u1.heap.size s3 V1 ao k cap LN) := by
        have h := HK.out
        rw [HF3.out] at h
        exact h
      clear hgc
      have KE := Lib.hid (refrend_any (w.heap.size + 1) s3 wr HK'.out.rd HM3.out)
      have KE0 : Hid (Calls Try.prog 40 #[.pointer (some ⟨w.heap.size + 1, 0, none⟩)] wr fun e w' => e = .returned (.int .i64 0) ∧ wr = w') := by
        have := KE.out
        rw [HEs.out] at this
        exact this
      go_wp2_with fail
      refine KE0.out.mono ?_
      rintro e v7 ⟨rfl, rfl⟩
      have WM := Lib.hid (refmaychain_r V1 (.slice ao k cap) (ofNats LN) wr.heap.size wr (ints_own HK'.out.row (Nat.le_refl _)) (Nat.le_refl _) true (show _ = _ from HV.out))
      go_wp2_with fail
      refine WM.out.mono ?_
      rintro e v8 ⟨rfl, B8⟩
      have G8' := Lib.hid (HK'.out.keep B8)
      clear B8 c0 c1 z1
      obtain ⟨d0, d1⟩ := G8'.out.q.cells
      go_wp2_with (refine store_ch rfl (.tmp 2) (.tmp 40) rfl w.heap.size rfl V1 ao k cap rfl G8'.out.res ?_)
      intro w8 H8 G8
      clear d0 d1
      obtain ⟨d0, d1⟩ := H8.cells
      have BF : Hid (Below w.heap.size w w8) := G8'.out.bel.trans (grown_below G8 (Nat.le_refl _) G8'.out.res.lt)
      have HO9 := Lib.hid (own_base (own_grown G8'.out.row G8 (by omega)) (show w.heap.size ≤ u1.heap.size + 1 by omega))
      clear G8
      go_wp2
      refine bodyPost_ret (v := .tuple #[.agg #[.int .i64 V1, .slice ao k cap], .int .i64 0]) (by simp [results, Try.results24, go_sem, d0, d1]) rfl ⟨_, rfl, ?_, BF.out⟩
      rw [HNL.out]
      exact HO9.out
end Go.Proofs.Ytocedkdgmhegeaa
