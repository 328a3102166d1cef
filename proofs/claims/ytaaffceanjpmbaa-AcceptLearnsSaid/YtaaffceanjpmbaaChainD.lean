/-
  THE PROGRAM's Next: which chain may follow. Of chains of at most a million nodes.
-/
import Derived.Test.YtaaffceanjpmbaaChainC
import Derived.Laws.EntriesVeiled
namespace Go.Proofs.Ytaaffceanjpmbaa
open Go.RowKit Go.Shelf

attribute [local go_sem] Oper.semAt_some

/-- How far one has come in a's nodes behind one more of b's. -/
def nxN (A : List Int) (p : Nat) (y : SpotV) : Option Nat :=
  if y.nd ∈ A.drop p then some (p + ((A.drop p).idxOf y.nd + 1)) else if y.ab ≠ -1 ∧ y.bl = -1 ∧ y.nd ∉ A then some p else none
def runN (A : List Int) (pre : List SpotV) : Option Nat := pre.foldl (fun s y => s.bind fun p => nxN A p y) (some 0)
theorem spot_ab (L : List Int) (k : Nat) : (spotOf L k).ab = chAt L ((k : Int) - 1) := rfl
theorem runN_nil (A : List Int) : runN A [] = some 0 := rfl
theorem runN_snoc (A : List Int) (pre : List SpotV) (y : SpotV) : runN A (pre ++ [y]) = (runN A pre).bind fun p => nxN A p y := by simp [runN]
theorem run_some {A B : List Int} (hB : ∀ x ∈ B, 0 ≤ x) (h0 : 0 < B.length) : ∀ (k p : Nat), k ≤ B.length → runN A (spotsOf B k) = some p → Con A (B.take k) p ∨ (k = B.length ∧ Fol A B)
  | 0, p, _, h => by
    obtain rfl : 0 = p := by simpa [spotsOf, runN_nil] using h
    exact .inl (by simpa using con_nil A)
  | k + 1, p, hk, h => by
    rw [spotsOf_succ, runN_snoc] at h
    cases hq : runN A (spotsOf B k) with
    | none => rw [hq] at h; cases h
    | some q =>
      rw [hq] at h
      rcases run_some hB h0 k q (by omega) hq with hc | ⟨e, _⟩
      · simp only [Option.bind_some, nxN] at h
        have hnd : (spotOf B k).nd = B.getD k 0 := rfl
        rw [hnd] at h
        split at h
        · rename_i hm
          cases h
          left
          rw [take_snoc B k hk]
          exact hc.step hm
        · split at h
          · rename_i hn hx
            obtain ⟨h1, h2, h3⟩ := hx
            right
            have hk0 : 0 < k := by
              rcases Nat.eq_zero_or_pos k with e | e
              · subst e
                exact (h1 (by rw [spot_ab]; exact chAt_out (.inl (by decide)))).elim
              · exact e
            have hkl : k + 1 = B.length := by
              rcases Nat.lt_or_ge (k + 1) B.length with e | e
              · have e2 : (spotOf B k).bl = B.getD (k + 1) 0 := by
                  show chAt B ((k : Int) + 1) = _
                  rw [show (k : Int) + 1 = ((k + 1 : Nat) : Int) by omega, chAt_in e]
                rw [e2] at h2
                have := hB _ (chGet_mem e)
                omega
              · omega
            exact ⟨hkl, fol_new hk0 hkl hc h3⟩
          · cases h
      · omega
theorem run_none {A B : List Int} (hB : ∀ x ∈ B, 0 ≤ x) (h0 : 0 < B.length) : ∀ (k : Nat), k ≤ B.length → runN A (spotsOf B k) = none → ¬ Fol A B
  | 0, _, h => by simp [spotsOf, runN_nil] at h
  | k + 1, hk, h => by
    rw [spotsOf_succ, runN_snoc] at h
    cases hq : runN A (spotsOf B k) with
    | none => exact run_none hB h0 k (by omega) hq
    | some q =>
      rw [hq] at h
      rcases run_some hB h0 k q (by omega) hq with hc | ⟨e, _⟩
      · simp only [Option.bind_some, nxN] at h
        have hnd : (spotOf B k).nd = B.getD k 0 := rfl
        rw [hnd] at h
        split at h
        · cases h
        · rename_i hn
          split at h
          · cases h
          · rename_i hx
            refine fol_no (k := k) (by omega) rfl hc hn fun ⟨g1, g2, g3⟩ => hx ⟨?_, ?_, g3⟩
            · show chAt B ((k : Int) - 1) ≠ -1
              obtain ⟨j, rfl⟩ : ∃ j, k = j + 1 := ⟨k - 1, by omega⟩
              rw [show ((j + 1 : Nat) : Int) - 1 = (j : Int) by omega, chAt_in (by omega)]
              have := hB _ (chGet_mem (L := B) (k := j) (by omega))
              omega
            · exact chAt_out (.inr (by omega))
      · omega
theorem nx_in {A : List Int} {p : Nat} {y : SpotV} (h : y.nd ∈ A.drop p) : nxN A p y = some (p + ((A.drop p).idxOf y.nd + 1)) ∧ behindL (A.drop p) y.nd = A.drop (p + ((A.drop p).idxOf y.nd + 1)) := by
  unfold nxN behindL
  rw [if_pos h, if_pos h, List.drop_drop]
  exact ⟨rfl, rfl⟩
theorem nx_new {A : List Int} {p : Nat} {y : SpotV} (h : y.nd ∉ A.drop p) (hx : y.ab ≠ -1 ∧ y.bl = -1 ∧ y.nd ∉ A) : nxN A p y = some p ∧ behindL (A.drop p) y.nd = A.drop p := by
  unfold nxN behindL
  rw [if_neg h, if_neg h, if_pos hx]
  exact ⟨rfl, rfl⟩
theorem nx_no {A : List Int} {p : Nat} {y : SpotV} (h : y.nd ∉ A.drop p) (hx : ¬ (y.ab ≠ -1 ∧ y.bl = -1 ∧ y.nd ∉ A)) : nxN A p y = none := by
  unfold nxN
  rw [if_neg h, if_neg hx]

theorem keepsFrom_only {W W' : World} {bx : Nat} {cs : Array Value} {e : TypeId} {fr : Nat × Nat} (h : Only (· = bx) W W') (hb : W.heap[bx]? = some (.cells cs e fr)) (B : Nat) : KeepsFrom B W W' :=
  ⟨h.size, fun k o _ hk ho => (h.block k (Array.getElem?_eq_some_iff.1 hk).1 (fun e' => by subst e'; rw [hb] at hk; cases hk; cases ho)).trans hk⟩

theorem ints_grown {X Y : World} {row : Option Nat} {B : Nat} {v : Value} {L : List Int} (h : Ints X B v L) (hg : X.grownBy Y row) (hrow : ∀ r, row = some r → ∃ o : Obj, X.heap[r]? = some o ∧ o.isCells = false) : Ints Y B v L := by
  obtain ⟨ao, cap, rfl, h1, h2, h3, h4⟩ := h
  refine ⟨ao, cap, rfl, h1, h2, h3, fun hl => ?_⟩
  obtain ⟨b, off, rfl, hb, hc⟩ := h4 hl
  refine ⟨b, off, rfl, hb, fun j hj => ?_⟩
  have hx := hc j hj
  refine (World.cell?_of_block (a := ⟨b, off + j, none⟩) (hg.block b (World.block_lt_of_cell? X _ hx) fun e => ?_)).trans hx
  obtain ⟨o, ho, hcs⟩ := hrow b e.symm
  cases o <;> simp [World.cell?, ho, Obj.isCells] at hx hcs

/-- Both may be, and the epochs fit: what is told then. -/
theorem nextC_of {ea eb n : Int} {A L : List Int} (h1 : ChainV.may ⟨ea, A⟩ ∧ ∀ x ∈ A, x < n) (h2 : ChainV.may ⟨eb, L⟩ ∧ ∀ x ∈ L, x < n) (h3 : eb = ea + 1) : nextC ea A eb L n ↔ Fol A L :=
  ⟨fun h => h.2.2.2.2.2, fun h => ⟨h1.1, h2.1, h1.2, h2.2, h3, h⟩⟩

set_option maxRecDepth 100000 in
set_option maxHeartbeats 8000000 in
theorem chnext_in (k B : Nat) (hk : 3 ≤ k) (ea : Int) (va : Value) (A : List Int) (eb : Int) (vb : Value) (L : List Int) (n : Int) (w : World) (hIa : Ints w B va A) (hIb : Ints w B vb L) (hB : B ≤ w.heap.size)
    (h1 : ChainV.may ⟨ea, A⟩ ∧ ∀ x ∈ A, x < n) (h2 : ChainV.may ⟨eb, L⟩ ∧ ∀ x ∈ L, x < n) (h3 : eb = ea + 1) {R : Bool} (hR : decide (Fol A L) = R) :
    CallsIn Fence.wide k Try.prog 36 #[.agg #[.int .i64 ea, va], .agg #[.int .i64 eb, vb], .int .i64 n] w fun e w' => e = .returned (.bool R) ∧ Below w.heap.size w w' := by
  have hro : Fence.wide.round = none := rfl
  have hk1 : 1 ≤ k := by omega
  have hla : A.length ≤ 5 := h1.1.2.2.2.1
  have hlb : L.length ≤ 5 := h2.1.2.2.2.1
  have hpb : 1 ≤ L.length := h2.1.2.2.1
  have hnn : ∀ x ∈ L, 0 ≤ x := fun x hx => (h2.1.2.2.2.2.1 x hx).1
  have he0 : wrap64 (ea + 1) = eb := by
    rw [h3]
    have := h1.1.1
    have := h1.1.2.1
    simp only at *
    exact IntWalk.wrap64_in _ (by omega)
  have HM1 : Hid (∀ u, Below w.heap.size w u → Calls Try.prog 59 #[.agg #[.int .i64 ea, va], .int .i64 n] u fun e w' => e = .returned (.bool true) ∧ Below u.heap.size u w') := fun u hu =>
    maybeof_r ea va A n B u (hIa.keep (hu.mono hB)) (Nat.le_trans hB hu.size) (decide_eq_true h1)
  have HM2 : Hid (∀ u, Below w.heap.size w u → Calls Try.prog 59 #[.agg #[.int .i64 eb, vb], .int .i64 n] u fun e w' => e = .returned (.bool true) ∧ Below u.heap.size u w') := fun u hu =>
    maybeof_r eb vb L n B u (hIb.keep (hu.mono hB)) (Nat.le_trans hB hu.size) (decide_eq_true h2)
  have HA := Lib.hid hIa
  have HB := Lib.hid hIb
  have HR := Lib.hid hR
  have HNN := Lib.hid hnn
  obtain ⟨aa, ca, rfl⟩ : ∃ a c, va = .slice a A.length c := by obtain ⟨a, c, h, _⟩ := hIa; exact ⟨a, c, h⟩
  obtain ⟨ab, cb, rfl⟩ : ∃ a c, vb = .slice a L.length c := by obtain ⟨a, c, h, _⟩ := hIb; exact ⟨a, c, h⟩
  clear hIa hIb hR hnn h1 h2 h3
  refine callsIn_of_wp_marks Try.func36 rfl trivial ?_ hro
  simp only [Try.ntmps36, List.size_toArray, List.length_cons, List.length_nil, Nat.reduceAdd, Nat.reduceSub, Array.replicate_succ, Array.replicate_zero, List.push_toArray, List.append_toArray, List.nil_append, List.cons_append]
  gi_wp2_with fail
  obtain ⟨u0, hu0⟩ : ∃ u0, u0 = ((w.alloc (.cells #[.int .i64 ea, .slice aa A.length ca] 28)).alloc (.cells #[.int .i64 eb, .slice ab L.length cb] 28)).alloc (.cells #[.bool false] 4) := ⟨_, rfl⟩
  have U0 : Below w.heap.size w u0 := by rw [hu0]; exact (((Below.refl _ w).alloc (Nat.le_refl _) _).alloc (by simp) _).alloc (by simp; omega) _
  have us0 : u0.heap.size = w.heap.size + 3 := by rw [hu0]; simp
  have a0 : ChB u0 w.heap.size ea (.slice aa A.length ca) := by rw [hu0]; exact (ChB.fresh w ea (.slice aa A.length ca) 28).keep (((Below.refl _ _).alloc (Nat.le_refl _) _).alloc (by simp) _) (by simp)
  have b0 : ChB u0 (w.heap.size + 1) eb (.slice ab L.length cb) := by
    rw [hu0]
    have := ChB.fresh (w.alloc (.cells #[.int .i64 ea, .slice aa A.length ca] 28)) eb (.slice ab L.length cb) 28
    rw [World.size_alloc] at this
    exact this.keep ((Below.refl _ _).alloc (Nat.le_refl _) _) (by simp)
  have r0 : BoB u0 (w.heap.size + 2) false := by
    rw [hu0]
    have := heap_alloc_new ((w.alloc (.cells #[.int .i64 ea, .slice aa A.length ca] 28)).alloc (.cells #[.int .i64 eb, .slice ab L.length cb] 28)) (.cells #[.bool false] 4)
    rw [World.size_alloc, World.size_alloc] at this
    exact this
  rw [← hu0]
  clear hu0
  refine ⟨trivial, (callsIn_wide.2 (HM1.out _ U0)).mono ?_⟩
  rintro e u1 ⟨rfl, B1⟩
  have U1 := Lib.hid (U0.trans (B1.mono U0.size))
  have us1 : w.heap.size + 3 ≤ u1.heap.size := by have := B1.size; omega
  have a1 := Lib.hid (a0.keep B1 a0.lt)
  have b1 := Lib.hid (b0.keep B1 b0.lt)
  have r1 : Hid (BoB u1 (w.heap.size + 2) false) := (B1.block _ (by omega)).trans r0
  clear B1 U0 a0 b0 r0 us0
  obtain ⟨c0, c1⟩ := b1.out.cells
  gi_wp2_with fail
  refine ⟨trivial, (callsIn_wide.2 (HM2.out _ U1.out)).mono ?_⟩
  rintro e u2 ⟨rfl, B2⟩
  have U2 := Lib.hid (U1.out.trans (B2.mono U1.out.size))
  have us2 : w.heap.size + 3 ≤ u2.heap.size := by have := B2.size; omega
  have a2 := Lib.hid (a1.out.keep B2 a1.out.lt)
  have b2 := Lib.hid (b1.out.keep B2 b1.out.lt)
  have r2 : Hid (BoB u2 (w.heap.size + 2) false) := (B2.block _ (by omega)).trans r1.out
  clear B2 U1 a1 b1 r1 us1 c0 c1
  obtain ⟨c0, c1⟩ := b2.out.cells
  obtain ⟨d0, d1⟩ := a2.out.cells
  have hne : (eb != eb) = false := by simp
  gi_wp2_with fail
  refine ⟨trivial, (callsIn_wide.2 (chturns_any _ _ _ _ _)).mono ?_⟩
  rintro e w' ⟨rfl, rfl⟩
  have FX : ∀ o1 o2 o3, (((u2.alloc o1).alloc o2).alloc o3).cell? ⟨w.heap.size + 1, 0, none⟩ = some (.int .i64 eb) ∧ (((u2.alloc o1).alloc o2).alloc o3).cell? ⟨w.heap.size + 1, 1, none⟩ = some (.slice ab L.length cb) := fun o1 o2 o3 =>
    (b2.out.keep ((((Below.refl u2.heap.size u2).alloc (Nat.le_refl _) o1).alloc (by simp) o2).alloc (by simp; omega) o3) b2.out.lt).cells
  obtain ⟨f0, f1⟩ := FX (.cells #[.int .i64 ea, .slice aa A.length ca] 28) (.cells #[.slice aa A.length ca] 22) (.cells #[.func (.func 79) #[] #[.pointer (some ⟨u2.heap.size + 1, 0, none⟩)]] 91)
  clear c0 c1 d0 d1 FX
  gi_wp2_with fail
  refine ⟨trivial, (callsIn_wide.2 (chspots_any _ _ _)).mono ?_⟩
  rintro e w' ⟨rfl, rfl⟩
  gi_wp2_with fail
  clear f0 f1
  obtain ⟨q, hq⟩ : ∃ q, q = u2.heap.size := ⟨_, rfl⟩
  obtain ⟨w3, hw3⟩ : ∃ w3, w3 = (((u2.alloc (.cells #[.int .i64 ea, .slice aa A.length ca] 28)).alloc (.cells #[.slice aa A.length ca] 22)).alloc (.cells #[.func (.func 79) #[] #[.pointer (some ⟨u2.heap.size + 1, 0, none⟩)]] 91)).alloc (.cells #[.int .i64 eb, .slice ab L.length cb] 28) := ⟨_, rfl⟩
  have hs3 : w3.heap.size = q + 4 := by rw [hw3, hq]; simp
  have hU3 : Below u2.heap.size u2 w3 := by rw [hw3]; exact ((((Below.refl _ u2).alloc (Nat.le_refl _) _).alloc (by simp) _).alloc (by simp; omega) _).alloc (by simp; omega) _
  have hB3 : Below w.heap.size w w3 := U2.out.trans (hU3.mono U2.out.size)
  have a3 : ChB w3 w.heap.size ea (.slice aa A.length ca) := a2.out.keep hU3 a2.out.lt
  have r3 : BoB w3 (w.heap.size + 2) false := (hU3.block _ (by omega)).trans r2.out
  have l3 : w3.heap[q + 1]? = some (.cells #[.slice aa A.length ca] 22 (0, 0)) := by
    rw [hw3, hq]
    have h := heap_alloc_new (u2.alloc (.cells #[.int .i64 ea, .slice aa A.length ca] 28)) (.cells #[.slice aa A.length ca] 22)
    rw [World.size_alloc] at h
    exact ((((Below.refl _ _).alloc (Nat.le_refl _) _).alloc (by simp) _).block _ (by simp)).trans h
  have f3 : w3.heap[q + 2]? = some (.cells #[.func (.func 79) #[] #[.pointer (some ⟨q + 1, 0, none⟩)]] 91 (0, 0)) := by
    rw [hw3, hq]
    have h := heap_alloc_new ((u2.alloc (.cells #[.int .i64 ea, .slice aa A.length ca] 28)).alloc (.cells #[.slice aa A.length ca] 22)) (.cells #[.func (.func 79) #[] #[.pointer (some ⟨u2.heap.size + 1, 0, none⟩)]] 91)
    rw [World.size_alloc, World.size_alloc] at h
    exact (((Below.refl _ _).alloc (Nat.le_refl _) _).block _ (by simp)).trans h
  have c3 : ChB w3 (q + 3) eb (.slice ab L.length cb) := by
    rw [hw3, hq]
    have h := heap_alloc_new (((u2.alloc (.cells #[.int .i64 ea, .slice aa A.length ca] 28)).alloc (.cells #[.slice aa A.length ca] 22)).alloc (.cells #[.func (.func 79) #[] #[.pointer (some ⟨u2.heap.size + 1, 0, none⟩)]] 91)) (.cells #[.int .i64 eb, .slice ab L.length cb] 28)
    rw [World.size_alloc, World.size_alloc, World.size_alloc] at h
    exact ⟨_, h⟩
  rw [← hw3, ← hq]
  have hq2 : w.heap.size + 3 ≤ q := by omega
  clear hw3 hU3 U2 a2 b2 r2 us2 hq HM1 HM2 u2
  refine wpIn_rangeFunc_ownH hro hk1 (gf := 81) (lb := #[.pointer (some ⟨q + 3, 0, none⟩)]) rfl trivial (enters_of Try.func81 (by kernel_rfl) rfl)
    (spots_stops (k - 1) (q + 3) w.heap.size B eb (.slice ab L.length cb) w L (by omega) HB.out hB w3 (hB3.mono hB) (by omega) c3)
    (fun h k => KeepB.trans h k) (fun W l o o' hl ho h1 h2 => ⟨belowK_b (w := w3) (by omega) W l o o' hl ho h1 h2, World.putObj_heap_other (by omega)⟩) (Below.refl _ _) (fun _ => rfl)
    (fun pre W => ((∃ p v, runN A pre = some p ∧ W.heap[q + 1]? = some (.cells #[v] 22 (0, 0)) ∧ Ints W B v (A.drop p)) ∧ ChB W w.heap.size ea (.slice aa A.length ca) ∧ W.heap[q + 2]? = some (.cells #[.func (.func 79) #[] #[.pointer (some ⟨q + 1, 0, none⟩)]] 91 (0, 0)) ∧ BoB W (w.heap.size + 2) false ∧ q + 4 ≤ W.heap.size) ∧ Below w.heap.size w W)
    (fun c pre W => (c = .ret ∧ runN A pre = none ∧ BoB W (w.heap.size + 2) false) ∧ Below w.heap.size w W)
    (OwnFrom.and (fun s X Y row ⟨⟨p, v, h1, h2, h3⟩, ⟨e4, h4⟩, h5, h6, h7⟩ hg hr => ⟨⟨p, v, h1, cells_own h2 hg (fun r e => (hr r e).2), ints_grown h3 hg (fun r e => (hr r e).2)⟩, ⟨e4, cells_own h4 hg (fun r e => (hr r e).2)⟩, cells_own h5 hg (fun r e => (hr r e).2), cells_own h6 hg (fun r e => (hr r e).2), Nat.le_trans h7 hg.size⟩) (ownFrom_below (Nat.le_refl _) (by omega)))
    (fun c => OwnFrom.and (fun s X Y row ⟨h0, h1, h2⟩ hg hr => ⟨h0, h1, cells_own h2 hg (fun r e => (hr r e).2)⟩) (ownFrom_below (Nat.le_refl _) (by omega)))
    ⟨⟨⟨0, _, rfl, l3, by simpa using HA.out.keep (hB3.mono hB)⟩, a3, f3, r3, by omega⟩, hB3⟩
    (fun y a' W => ∃ Bx, SpB W Bx y ∧ a' = { tmps := #[.agg #[.int .i64 ea, .slice aa A.length ca], .agg #[.int .i64 eb, .slice ab L.length cb], .int .i64 n, .pointer (some ⟨w.heap.size, 0, none⟩), .pointer (some ⟨w.heap.size + 1, 0, none⟩), undef, .pointer (some ⟨w.heap.size + 2, 0, none⟩), .pointer (some ⟨q + 2, 0, none⟩), .pointer (some ⟨Bx, 0, none⟩),
        .agg #[.int .i64 ea, .slice aa A.length ca], .int .i64 n, .bool true, .bool false, .bool false, .agg #[.int .i64 eb, .slice ab L.length cb], .int .i64 n, .bool true, .bool false, .bool false, .bool false, .pointer (some ⟨w.heap.size + 1, 0, none⟩), .int .i64 eb, .pointer (some ⟨w.heap.size, 0, none⟩), .int .i64 ea, .int .i64 eb,
        .bool false, .bool false, .agg #[.int .i64 ea, .slice aa A.length ca], .func (.func 79) #[] #[.pointer (some ⟨q + 1, 0, none⟩)], .agg #[.int .i64 eb, .slice ab L.length cb], .func (.func 81) #[] #[.pointer (some ⟨q + 3, 0, none⟩)], y.val, undef, undef, undef, undef, undef, undef, undef, undef, undef, undef, undef], defers := [] })
    (fun y a' => fun s X Y row ⟨Bx, hbx, ha⟩ hg hr => ⟨Bx, cells_own hbx hg (fun r e => (hr r e).2), ha⟩) ?assign ?body ?done ?stop
  case assign =>
    rintro l pre y W K ⟨⟨⟨p, v, i1, i2, i3⟩, i4, i5, i6, i7⟩, hBw⟩ hK
    simp only [encSp, SpotV.val]
    gi_wp2
    have hb1 : Below W.heap.size W (W.alloc (.cells #[.int .i64 y.ab, .int .i64 y.nd, .int .i64 y.bl] 97)) := (Below.refl _ W).alloc (Nat.le_refl _) _
    exact hK _ _ ((KeepsOthers.alloc _ _).from _) (.of hb1 hBw.size (by omega)) ⟨⟨⟨p, v, i1, (hb1.block _ (by omega)).trans i2, i3.keep (hb1.mono (by omega))⟩, i4.keep hb1 i4.lt, (hb1.block _ (by omega)).trans i5, (hb1.block _ (by omega)).trans i6, by simp; omega⟩, hBw.trans (hb1.mono hBw.size)⟩ ⟨W.heap.size, heap_alloc_new W _, rfl⟩
  case body =>
    rintro l pre ⟨yp, yx, yr⟩ a' W hl ⟨rr, hr⟩ ⟨⟨⟨p, v, i1, i2, i3⟩, i4, i5, i6, i7⟩, hBw⟩ ⟨Bx, bX, rfl⟩ hlt
    obtain ⟨⟨x0, x1, x2⟩, _⟩ := bX.cells
    obtain ⟨d0, d1⟩ := i4.cells
    have g0 : W.cell? ⟨q + 2, 0, none⟩ = some (.func (.func 79) #[] #[.pointer (some ⟨q + 1, 0, none⟩)]) := cell_of_one i5
    have z0 : W.frozen? ⟨w.heap.size + 2, 0, none⟩ = false := i6.cells.2
    have HT := Lib.hid (chturns1_r yx (q + 1) v (A.drop p) (by rw [List.length_drop]; omega) B W i2 i3 (by omega))
    have I1 := Lib.hid i1
    have I2 := Lib.hid i2
    have I4 := Lib.hid i4
    have I5 := Lib.hid i5
    have I6 := Lib.hid i6
    have IX := Lib.hid bX
    have HBW := Lib.hid hBw
    have hbx := lt_of_block (show W.heap[Bx]? = _ from bX)
    have hbxn : Bx ≠ q + 1 := fun e => by subst e; have := (show W.heap[q + 1]? = _ from bX).symm.trans i2; simp at this
    clear hlt i1 i2 i3 i4 i5 i6 hr hBw bX rr hs3 hB3 a3 r3 l3 f3 c3
    dsimp only [SpotV.val] at x0 x1 x2 ⊢
    gi_wp2_with fail
    refine ⟨trivial, (fun h => by cases h), (CallsIn.inRound l (callsIn_wide.2 HT.out)).mono ?_⟩
    rintro e W1 ⟨rfl, ⟨v1, l1, I31⟩, o1⟩
    have HO := Lib.hid o1
    have HL := Lib.hid l1
    have HV := Lib.hid I31
    have hsz := o1.size
    have hbel : Below w.heap.size w W1 := o1.below HBW.out (fun x hx => by omega) (by omega)
    have HBL := Lib.hid hbel
    have hkb : KeepB w.heap.size (q + 3) W W1 := ⟨o1.below (Below.refl _ _) (fun x hx => by omega) (by omega), o1.block _ (by omega) (by omega)⟩
    have HKB := Lib.hid hkb
    have HKF := Lib.hid (keepsFrom_only o1 I2.out w3.heap.size)
    have J4 : Hid (ChB W1 w.heap.size ea (.slice aa A.length ca)) := by obtain ⟨e4, h4⟩ := I4.out; exact ⟨e4, (o1.block _ (by omega) (by omega)).trans h4⟩
    have J5 : Hid (W1.heap[q + 2]? = some (.cells #[.func (.func 79) #[] #[.pointer (some ⟨q + 1, 0, none⟩)]] 91 (0, 0))) := (o1.block _ (by omega) (by omega)).trans I5.out
    have J6 : Hid (BoB W1 (w.heap.size + 2) false) := (o1.block _ (by omega) (by omega)).trans I6.out
    have JX : Hid (SpB W1 Bx ⟨yp, yx, yr⟩) := (o1.block _ hbx hbxn).trans IX.out
    clear x0 x1 x2 d0 d1 g0 z0 o1 l1 I31 hbel hkb HT
    by_cases hin : yx ∈ A.drop p
    · rw [decide_eq_true hin]
      have hx := nx_in (y := ⟨yp, yx, yr⟩) hin
      have hrn : Hid (runN A (pre ++ [⟨yp, yx, yr⟩]) = some (p + ((A.drop p).idxOf yx + 1))) := by show _ = _; rw [runN_snoc, I1.out]; exact hx.1
      have hbe : Hid (Ints W1 B v1 (A.drop (p + ((A.drop p).idxOf yx + 1)))) := by show Ints _ _ _ _; rw [← hx.2]; exact HV.out
      clear hin hx
      gi_wp2_with fail
      refine ⟨trivial, ?_⟩
      gi_wp2
      exact ⟨HKF.out, HKB.out, ⟨⟨_, v1, hrn.out, HL.out, hbe.out⟩, J4.out, J5.out, J6.out, by omega⟩, HBL.out⟩
    · rw [decide_eq_false hin]
      obtain ⟨⟨x0, x1, x2⟩, _⟩ := JX.out.cells
      obtain ⟨d0, d1⟩ := J4.out.cells
      dsimp only [SpotV.val] at x0 x1 x2
      have hbe0 : behindL (A.drop p) yx = A.drop p := by unfold behindL; rw [if_neg hin]
      have hbe : Hid (Ints W1 B v1 (A.drop p)) := by show Ints _ _ _ _; rw [← hbe0]; exact HV.out
      have HN := Lib.hid (maybenew_r yp yx yr ea (.slice aa A.length ca) A (by omega) B W1 (HA.out.keep (HBL.out.mono hB)) (by omega) rfl)
      by_cases hnew : yp ≠ -1 ∧ yr = -1 ∧ yx ∉ A
      · rw [decide_eq_true hnew] at HN
        have hrn : Hid (runN A (pre ++ [⟨yp, yx, yr⟩]) = some p) := by show _ = _; rw [runN_snoc, I1.out]; exact (nx_new (y := ⟨yp, yx, yr⟩) hin hnew).1
        clear hin hnew hbe0
        gi_wp2_with fail
        refine ⟨trivial, (fun h => by cases h), (CallsIn.inRound l (callsIn_wide.2 HN.out)).mono ?_⟩
        rintro e W2 ⟨rfl, B2⟩
        have hkw : KeepsFrom w3.heap.size W1 W2 := ⟨B2.size, fun k o _ hk _ => (B2.block k (Array.getElem?_eq_some_iff.1 hk).1).trans hk⟩
        have HKF2 := Lib.hid (HKF.out.trans hkw)
        have HKB2 := Lib.hid (HKB.out.trans (.of B2 (by omega) (by omega)))
        have HC := Lib.hid B2
        have hs2 := B2.size
        clear B2 hkw x0 x1 x2 d0 d1
        gi_wp2
        exact ⟨HKF2.out, HKB2.out, ⟨⟨_, v1, hrn.out, (HC.out.block _ (by omega)).trans HL.out, hbe.out.keep (HC.out.mono (by omega))⟩, J4.out.keep HC.out J4.out.lt, (HC.out.block _ (by omega)).trans J5.out, (HC.out.block _ (by omega)).trans J6.out, by omega⟩, HBL.out.trans (HC.out.mono (by omega))⟩
      · rw [decide_eq_false hnew] at HN
        have hrn : Hid (runN A (pre ++ [⟨yp, yx, yr⟩]) = none) := by show _ = _; rw [runN_snoc, I1.out]; exact nx_no (y := ⟨yp, yx, yr⟩) hin hnew
        clear hin hnew hbe0
        gi_wp2_with fail
        refine ⟨trivial, (fun h => by cases h), (CallsIn.inRound l (callsIn_wide.2 HN.out)).mono ?_⟩
        rintro e W2 ⟨rfl, B2⟩
        have hkw : KeepsFrom w3.heap.size W1 W2 := ⟨B2.size, fun k o _ hk _ => (B2.block k (Array.getElem?_eq_some_iff.1 hk).1).trans hk⟩
        have HKF2 := Lib.hid (HKF.out.trans hkw)
        have HC := Lib.hid B2
        have r2 : BoB W2 (w.heap.size + 2) false := (B2.block _ (by omega)).trans J6.out
        have HR2 := Lib.hid r2
        obtain ⟨y0, z0⟩ := r2.cells
        have hs2 := B2.size
        clear B2 hkw x0 x1 x2 d0 d1 r2
        gi_wp2
        exact ⟨HKF2.out.trans ((KeepsOthers.setCell _ _ _).from _), ⟨rfl, hrn.out, by show _ = _; rw [heap_setCell_same _ _ _ _ _ _ HR2.out]; rfl⟩, (HBL.out.trans (HC.out.mono (by omega))).setCell (p := ⟨w.heap.size + 2, 0, none⟩) (by simp) _⟩
  case done =>
    rintro D ys W hD rfl ⟨⟨⟨p, v, i1, i2, i3⟩, i4, i5, i6, i7⟩, hBw⟩ hK
    have hF : Fol A L := by
      rcases run_some HNN.out (by omega) L.length p (Nat.le_refl _) i1 with h | ⟨_, h⟩
      · rw [List.take_length] at h; exact fol_all (by omega) h
      · exact h
    obtain rfl : R = true := by rw [← HR.out]; exact decide_eq_true hF
    obtain ⟨y0, z0⟩ := i6.cells
    have I6 := Lib.hid i6
    have HBW := Lib.hid hBw
    have hK4 : (W.setCell ⟨w.heap.size + 2, 0, none⟩ (.bool true)).heap[D]? = _ := (KeepsOthers.setCell W ⟨w.heap.size + 2, 0, none⟩ (.bool true)).same D _ hK rfl
    clear i1 i2 i3 i4 i5 i6 hF hBw hK
    gi_wp2
    refine ⟨by simp, .inl ⟨_, _, rfl, run_takeDeferred hK4, ?_⟩⟩
    have r5 : BoB (W.setCell ⟨w.heap.size + 2, 0, none⟩ (.bool true)) (w.heap.size + 2) true := by show _ = _; rw [heap_setCell_same _ _ _ _ _ _ I6.out]; rfl
    have hq5 : BoB ((W.setCell ⟨w.heap.size + 2, 0, none⟩ (.bool true)).putObj D (.deferred none)) (w.heap.size + 2) true := cells_own r5 (grownBy_putObj' _ D (.deferred none)) (fun r e => by cases e; exact ⟨_, hK4, rfl⟩)
    obtain ⟨e3, _⟩ := hq5.cells
    refine ⟨.bool true, ?_, rfl, (HBW.out.setCell (p := ⟨w.heap.size + 2, 0, none⟩) (by simp) _).trans (belowK_b (w := w) (Nat.le_refl _) _ D _ _ (by omega) hK4 rfl rfl)⟩
    simp [results, Try.results36, go_sem, e3]
  case stop =>
    rintro D c pre W _ ⟨j, hj, hp⟩ ⟨⟨rfl, h1, h2⟩, hBw⟩ hK
    rw [hp] at h1
    have hF := run_none HNN.out (by omega) j hj h1
    obtain rfl : R = false := by rw [← HR.out]; exact decide_eq_false hF
    clear h1 hF hp
    gi_wp2
    refine ⟨by simp, .inl ⟨_, _, rfl, run_takeDeferred hK, ?_⟩⟩
    have hq5 : BoB (W.putObj D (.deferred none)) (w.heap.size + 2) false := cells_own h2 (grownBy_putObj' _ D (.deferred none)) (fun r e => by cases e; exact ⟨_, hK, rfl⟩)
    obtain ⟨e3, _⟩ := hq5.cells
    refine ⟨.bool false, ?_, rfl, hBw.trans (belowK_b (w := w) (Nat.le_refl _) _ D _ _ (by omega) hK rfl rfl)⟩
    simp [results, Try.results36, go_sem, e3]

set_option maxRecDepth 100000 in
set_option maxHeartbeats 4000000 in
theorem chnext_not (ea : Int) (va : Value) (A : List Int) (eb : Int) (vb : Value) (L : List Int) (n : Int) (B : Nat) (w : World) (hIa : Ints w B va A) (hIb : Ints w B vb L) (hB : B ≤ w.heap.size)
    (hno : ¬ ((ChainV.may ⟨ea, A⟩ ∧ ∀ x ∈ A, x < n) ∧ (ChainV.may ⟨eb, L⟩ ∧ ∀ x ∈ L, x < n) ∧ eb = ea + 1)) :
    Calls Try.prog 36 #[.agg #[.int .i64 ea, va], .agg #[.int .i64 eb, vb], .int .i64 n] w fun e w' => e = .returned (.bool false) ∧ Below w.heap.size w w' := by
  obtain ⟨aa, ca, rfl⟩ : ∃ a c, va = .slice a A.length c := by obtain ⟨a, c, h, _⟩ := hIa; exact ⟨a, c, h⟩
  obtain ⟨ab, cb, rfl⟩ : ∃ a c, vb = .slice a L.length c := by obtain ⟨a, c, h, _⟩ := hIb; exact ⟨a, c, h⟩
  have U0 : Hid (Below w.heap.size w (((w.alloc (.cells #[.int .i64 ea, .slice aa A.length ca] 28)).alloc (.cells #[.int .i64 eb, .slice ab L.length cb] 28)).alloc (.cells #[.bool false] 4))) :=
    (((Below.refl _ w).alloc (Nat.le_refl _) _).alloc (by simp) _).alloc (by simp; omega) _
  have a0 : Hid (ChB (((w.alloc (.cells #[.int .i64 ea, .slice aa A.length ca] 28)).alloc (.cells #[.int .i64 eb, .slice ab L.length cb] 28)).alloc (.cells #[.bool false] 4)) w.heap.size ea (.slice aa A.length ca)) :=
    (ChB.fresh w ea (.slice aa A.length ca) 28).keep (((Below.refl _ _).alloc (Nat.le_refl _) _).alloc (by simp) _) (by simp)
  have b0 : Hid (ChB (((w.alloc (.cells #[.int .i64 ea, .slice aa A.length ca] 28)).alloc (.cells #[.int .i64 eb, .slice ab L.length cb] 28)).alloc (.cells #[.bool false] 4)) (w.heap.size + 1) eb (.slice ab L.length cb)) := by
    have := ChB.fresh (w.alloc (.cells #[.int .i64 ea, .slice aa A.length ca] 28)) eb (.slice ab L.length cb) 28
    rw [World.size_alloc] at this
    exact this.keep ((Below.refl _ _).alloc (Nat.le_refl _) _) (by simp)
  have r0 : Hid (BoB (((w.alloc (.cells #[.int .i64 ea, .slice aa A.length ca] 28)).alloc (.cells #[.int .i64 eb, .slice ab L.length cb] 28)).alloc (.cells #[.bool false] 4)) (w.heap.size + 2) false) := by
    have := heap_alloc_new ((w.alloc (.cells #[.int .i64 ea, .slice aa A.length ca] 28)).alloc (.cells #[.int .i64 eb, .slice ab L.length cb] 28)) (.cells #[.bool false] 4)
    rw [World.size_alloc, World.size_alloc] at this
    exact this
  have HM1 : Hid (∀ u, Below w.heap.size w u → Calls Try.prog 59 #[.agg #[.int .i64 ea, .slice aa A.length ca], .int .i64 n] u fun e w' => e = .returned (.bool (decide (ChainV.may ⟨ea, A⟩ ∧ ∀ x ∈ A, x < n))) ∧ Below u.heap.size u w') := fun u hu =>
    maybeof_r ea _ A n B u (hIa.keep (hu.mono hB)) (Nat.le_trans hB hu.size) rfl
  have HM2 : Hid (∀ u, Below w.heap.size w u → Calls Try.prog 59 #[.agg #[.int .i64 eb, .slice ab L.length cb], .int .i64 n] u fun e w' => e = .returned (.bool (decide (ChainV.may ⟨eb, L⟩ ∧ ∀ x ∈ L, x < n))) ∧ Below u.heap.size u w') := fun u hu =>
    maybeof_r eb _ L n B u (hIb.keep (hu.mono hB)) (Nat.le_trans hB hu.size) rfl
  clear hIa hIb
  by_cases h1 : ChainV.may ⟨ea, A⟩ ∧ ∀ x ∈ A, x < n
  case neg =>
    rw [decide_eq_false h1] at HM1
    clear h1 hno HM2
    go_enter Try.func36, Try.ntmps36
    go_wp2_with fail
    refine (HM1.out _ U0.out).mono ?_
    rintro e w1 ⟨rfl, B1⟩
    have U1 := Lib.hid (U0.out.trans (B1.mono U0.out.size))
    have r1 : Hid (BoB w1 (w.heap.size + 2) false) := (B1.block _ (by simp)).trans r0.out
    clear B1
    obtain ⟨c0, f0⟩ := r1.out.cells
    go_wp2
    refine bodyPost_ret (v := .bool false) (by simp [results, Try.results36, go_sem, c0]) rfl ⟨rfl, (U1.out.setCell (p := ⟨w.heap.size + 2, 0, none⟩) (by simp) _)⟩
  case pos =>
    rw [decide_eq_true h1] at HM1
    by_cases h2 : ChainV.may ⟨eb, L⟩ ∧ ∀ x ∈ L, x < n
    case neg =>
      rw [decide_eq_false h2] at HM2
      clear h1 h2 hno
      go_enter Try.func36, Try.ntmps36
      go_wp2_with fail
      refine (HM1.out _ U0.out).mono ?_
      rintro e w1 ⟨rfl, B1⟩
      have U1 := Lib.hid (U0.out.trans (B1.mono U0.out.size))
      have us1 : w.heap.size + 3 ≤ w1.heap.size := by have := B1.size; simp at this; omega
      have r1 : Hid (BoB w1 (w.heap.size + 2) false) := (B1.block _ (by simp)).trans r0.out
      have b1 := Lib.hid (b0.out.keep B1 b0.out.lt)
      clear B1
      obtain ⟨d0, d1⟩ := b1.out.cells
      go_wp2_with fail
      refine (HM2.out _ U1.out).mono ?_
      rintro e w2 ⟨rfl, B2⟩
      have U2 := Lib.hid (U1.out.trans (B2.mono U1.out.size))
      have r2 : Hid (BoB w2 (w.heap.size + 2) false) := (B2.block _ (by omega)).trans r1.out
      clear B2 d0 d1
      obtain ⟨c0, f0⟩ := r2.out.cells
      go_wp2
      refine bodyPost_ret (v := .bool false) (by simp [results, Try.results36, go_sem, c0]) rfl ⟨rfl, (U2.out.setCell (p := ⟨w.heap.size + 2, 0, none⟩) (by simp) _)⟩
    case pos =>
      rw [decide_eq_true h2] at HM2
      have hne : eb ≠ ea + 1 := fun e => hno ⟨h1, h2, e⟩
      have he0 : wrap64 (ea + 1) = ea + 1 := by
        have := h1.1.1
        have := h1.1.2.1
        simp only at *
        exact IntWalk.wrap64_in _ (by omega)
      have hneb : (eb != ea + 1) = true := by simp [hne]
      clear h1 h2 hno hne
      go_enter Try.func36, Try.ntmps36
      go_wp2_with fail
      refine (HM1.out _ U0.out).mono ?_
      rintro e w1 ⟨rfl, B1⟩
      have U1 := Lib.hid (U0.out.trans (B1.mono U0.out.size))
      have us1 : w.heap.size + 3 ≤ w1.heap.size := by have := B1.size; simp at this; omega
      have r1 : Hid (BoB w1 (w.heap.size + 2) false) := (B1.block _ (by simp)).trans r0.out
      have b1 := Lib.hid (b0.out.keep B1 b0.out.lt)
      have a1 := Lib.hid (a0.out.keep B1 a0.out.lt)
      clear B1
      obtain ⟨d0, d1⟩ := b1.out.cells
      go_wp2_with fail
      refine (HM2.out _ U1.out).mono ?_
      rintro e w2 ⟨rfl, B2⟩
      have U2 := Lib.hid (U1.out.trans (B2.mono U1.out.size))
      have r2 : Hid (BoB w2 (w.heap.size + 2) false) := (B2.block _ (by omega)).trans r1.out
      have b2 := Lib.hid (b1.out.keep B2 b1.out.lt)
      have a2 := Lib.hid (a1.out.keep B2 a1.out.lt)
      clear B2 d0 d1
      obtain ⟨c0, f0⟩ := r2.out.cells
      obtain ⟨d0, d1⟩ := b2.out.cells
      obtain ⟨g0, g1⟩ := a2.out.cells
      go_wp2
      refine bodyPost_ret (v := .bool false) (by simp [results, Try.results36, go_sem, c0]) rfl ⟨rfl, (U2.out.setCell (p := ⟨w.heap.size + 2, 0, none⟩) (by simp) _)⟩

theorem chnext_r (ea : Int) (va : Value) (A : List Int) (eb : Int) (vb : Value) (L : List Int) (n : Int) (B : Nat) (w : World) (hIa : Ints w B va A) (hIb : Ints w B vb L) (hB : B ≤ w.heap.size) {R : Bool} (hR : decide (nextC ea A eb L n) = R) :
    Calls Try.prog 36 #[.agg #[.int .i64 ea, va], .agg #[.int .i64 eb, vb], .int .i64 n] w fun e w' => e = .returned (.bool R) ∧ Below w.heap.size w w' := by
  by_cases h : (ChainV.may ⟨ea, A⟩ ∧ ∀ x ∈ A, x < n) ∧ (ChainV.may ⟨eb, L⟩ ∧ ∀ x ∈ L, x < n) ∧ eb = ea + 1
  · refine callsIn_wide.1 (chnext_in 3 B (Nat.le_refl _) ea va A eb vb L n w hIa hIb hB h.1 h.2.1 h.2.2 ?_)
    rw [← hR, decide_eq_decide]
    exact (nextC_of h.1 h.2.1 h.2.2).symm
  · obtain rfl : R = false := by
      rw [← hR]
      exact decide_eq_false fun k => h ⟨⟨k.1, k.2.2.1⟩, ⟨k.2.1, k.2.2.2.1⟩, k.2.2.2.2.1⟩
    exact chnext_not ea va A eb vb L n B w hIa hIb hB h
end Go.Proofs.Ytaaffceanjpmbaa
