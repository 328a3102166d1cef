/-
  PROVED: casebooklaw18.LineOnce answers true and leaves its argument as it was, for any requests: the row's own reading and nothing else is assumed.
-/
import Derived.Test.YtkbjnhonopgffaaLnU
import Derived.Test.YtkbjnhonopgffaaDiskV
import Derived.Deep.RegionHeld3
namespace Go.Proofs.Ytkbjnhonopgffaa.LineOnce
open Go.ChangeShapes Go.WideShapes Go.ChangeAt Go.RowKit

/-- A row of ints. -/
def row4 (f : Nat → Int) : List Value := (List.range 4).map fun j => .int .i64 (f j)
theorem row4_get (f : Nat → Int) {j : Nat} (h : j < 4) : (row4 f)[j]? = some (.int .i64 (f j)) := by simp [row4, h]
theorem row4_set (f f' : Nat → Int) (j : Nat) (x : Int) (hf : ∀ c, c < 4 → f' c = if c = j then x else f c) : (row4 f).set j (.int .i64 x) = row4 f' := by
  apply List.ext_getElem
  · simp [row4]
  · intro i h1 h2
    have hi : i < 4 := by simpa [row4] using h2
    have := hf i hi
    by_cases e : j = i
    · subst e
      simp [row4, this]
    · have e' : ¬ i = j := fun h => e h.symm
      simp [row4, e, this, e']
theorem lputV_cases {L L' : List ReqV} {r : ReqV} {p x : Int} (h : lputV L r = (L', p, x)) : (x = 0 ∧ p = (L.length : Int) + 1 ∧ L'.length = L.length + 1) ∨ (x = 1 ∧ p = 0 ∧ L' = L) ∨ (x = 9 ∧ p = 0 ∧ L' = L) := by
  unfold lputV at h
  split at h
  · simp only [Prod.mk.injEq] at h
    exact .inr (.inl ⟨h.2.2.symm, h.2.1.symm, h.1.symm⟩)
  · split at h
    · simp only [Prod.mk.injEq] at h
      exact .inr (.inr ⟨h.2.2.symm, h.2.1.symm, h.1.symm⟩)
    · simp only [Prod.mk.injEq] at h
      exact .inl ⟨h.2.2.symm, h.2.1.symm, by rw [← h.1]; simp⟩
/-- How LNew ends. -/
def NewX (w : World) (e : Ending) (w' : World) : Prop := ∃ g S, e = .returned (.tuple #[.pointer (some ⟨g, 0, none⟩), .int .i64 0]) ∧ Hid (GLo w.heap.size w g 6 [] 0 S w')
theorem own_cell {w : World} {n : Nat} {e : TypeId} {size : Nat} {v : Value} {len : Nat} {xs : List Value} (h : w.ownsRow n e size v len xs) (j : Nat) (x : Value) (hx : xs[j]? = some x) : ∃ b c, v = .slice (some ⟨b, 0, Option.none⟩) len c ∧ len ≤ c ∧ n ≤ b ∧ b < w.heap.size ∧ w.cell? ⟨b, j, Option.none⟩ = some x := by
  rcases h.2 with ⟨rfl, h0⟩ | ⟨g, cap, cur, rfl, hlow, hg, hle, _, _, ht⟩
  · have hl := h.1
    rw [h0, Nat.zero_mul] at hl
    rw [List.eq_nil_of_length_eq_zero hl] at hx
    simp at hx
  · refine ⟨g, cap, rfl, hle, hlow, lt_of_block hg, ?_⟩
    rw [cell_of_row _ _ _ _ _ _ hg, ← Array.getElem?_toList]
    rw [← ht, List.getElem?_take] at hx
    split at hx
    · exact hx
    · cases hx
/-- The requests of a row. -/
def AllAt (v : Value) (L : List ReqV) (u : World) : Prop := ∀ k, k < L.length → ∃ b c, v = .slice (some ⟨b, 0, none⟩) L.length c ∧ L.length ≤ c ∧ b < u.heap.size ∧ ReqCells u b (k * 6) (atL L k)
theorem AllAt.of {v : Value} {L : List ReqV} {B : Nat} {u : World} (h : u.ownsRow B 29 6 v L.length (reqCs L)) : AllAt v L u := by
  intro k hk
  have hg := reqCs_get L k hk
  obtain ⟨b, c, e, hc, _, hb, c0⟩ := own_cell h (k * 6) _ (by have := hg 0 (by omega); rw [Nat.add_zero] at this; exact this)
  have hj : ∀ j x, j < 6 → (reqC (atL L k))[j]? = some x → u.cell? ⟨b, k * 6 + j, none⟩ = some x := by
    intro j x hj hx
    obtain ⟨b', c', e', _, _, _, cj⟩ := own_cell h (k * 6 + j) x ((hg j hj).trans hx)
    rw [e] at e'
    simp only [Value.slice.injEq, Option.some.injEq, Addr.mk.injEq] at e'
    obtain ⟨⟨rfl, _, _⟩, _, rfl⟩ := e'
    exact cj
  exact ⟨b, c, e, hc, hb, hj 0 _ (by omega) rfl, hj 1 _ (by omega) rfl, hj 2 _ (by omega) rfl, hj 3 _ (by omega) rfl, hj 4 _ (by omega) rfl, hj 5 _ (by omega) rfl⟩
/-- The log, its requests in a row, the last numbers of the first j at p. -/
structure On (n : Nat) (w : World) (g : Nat) (L : List ReqV) (S : Nat → Prop) (v : Value) (p : Nat) (j : Nat) (u : World) : Prop where
  lo : GLo n w g 6 L 0 S u
  all : AllAt v L u
  arr : u.heap[p]? = some (.cells (row4 (seqL (L.take j))).toArray 62 (0, 0))
  ns : ¬ S p
  nb : ∀ b c, v = .slice (some ⟨b, 0, none⟩) L.length c → b ≠ p
  low : n ≤ p
section
variable {n : Nat} {w u u' : World} {g : Nat} {L : List ReqV} {S : Nat → Prop} {v : Value} {p j : Nat}
theorem On.on (h : On n w g L S v p j u) (hb : Below u.heap.size u u') : On n w g L S v p j u' := by
  refine ⟨h.lo.on hb, fun k hk => ?_, (hb.block p (lt_of_block h.arr)).trans h.arr, h.ns, h.nb, h.low⟩
  obtain ⟨b, c, e, hc, hl, a0, a1, a2, a3, a4, a5⟩ := h.all k hk
  have hx : ∀ o, u'.cell? ⟨b, o, none⟩ = u.cell? ⟨b, o, none⟩ := fun o => hb.cell (p := ⟨b, o, none⟩) hl
  exact ⟨b, c, e, hc, Nat.lt_of_lt_of_le hl hb.size, (hx _).trans a0, (hx _).trans a1, (hx _).trans a2, (hx _).trans a3, (hx _).trans a4, (hx _).trans a5⟩
theorem On.cell (h : On n w g L S v p j u) {c : Nat} (hc : c < 4) : u.cell? ⟨p, c, none⟩ = some (.int .i64 (seqL (L.take j) c)) ∧ u.frozen? ⟨p, c, none⟩ = false := by
  have hr := h.arr
  exact ⟨by rw [cell_of_row _ _ _ _ _ _ hr, List.getElem?_toArray, row4_get _ hc], by simp [World.frozen?, hr]⟩
theorem On.set (h : On n w g L S v p j u) {c : Nat} (hj : j < L.length) (hc : (atL L j).client = (c : Int)) : On n w g L S v p (j + 1) (u.setCell ⟨p, c, none⟩ (.int .i64 (atL L j).seq)) := by
  have ho : Only (· = p) u (u.setCell ⟨p, c, none⟩ (.int .i64 (atL L j).seq)) := ⟨rfl, rfl, rfl, by simp [World.setCell], fun k _ hk => Below.heap_setCell _ _ _ _ hk⟩
  refine ⟨h.lo.keep ho (fun x hx e => h.ns (e ▸ hx)) (fun x hx _ => ?_), fun k hk => ?_, ?_, h.ns, h.nb, h.low⟩
  · subst hx
    refine ⟨?_, h.low⟩
    intro o y hy
    have hr := h.arr
    simp only [World.cell?, hr] at hy
    match o, hy with
    | 0, hy => simp [row4] at hy
    | 1, hy => simp [row4] at hy
    | 2, hy => simp [row4] at hy
    | 3, hy => simp [row4] at hy
    | (o + 4), hy => simp [row4] at hy
  · obtain ⟨b, d, e, hd, hl, hr⟩ := h.all k hk
    have hb : (u.setCell ⟨p, c, none⟩ (.int .i64 (atL L j).seq)).heap[b]? = u.heap[b]? := Below.heap_setCell _ _ _ _ (h.nb b d e)
    have hx : ∀ o, (u.setCell ⟨p, c, none⟩ (.int .i64 (atL L j).seq)).cell? ⟨b, o, none⟩ = u.cell? ⟨b, o, none⟩ := fun o => World.cell?_of_block (a := ⟨b, o, none⟩) hb
    obtain ⟨a0, a1, a2, a3, a4, a5⟩ := hr
    exact ⟨b, d, e, hd, by simpa [World.setCell] using hl, (hx _).trans a0, (hx _).trans a1, (hx _).trans a2, (hx _).trans a3, (hx _).trans a4, (hx _).trans a5⟩
  · rw [heap_setCell_same _ _ _ _ _ _ h.arr, List.setIfInBounds_toArray, row4_set _ (seqL (L.take (j + 1))) c _ fun i hi => ?_]
    rw [take_next hj, seqL_app, hc]
    by_cases e : c = i
    · subst e; simp
    · rw [if_neg (by omega), if_neg (fun h => e h.symm)]
end

theorem AllAt.on {v : Value} {L : List ReqV} {u u' : World} (h : AllAt v L u) (hb : Below u.heap.size u u') : AllAt v L u' := fun k hk => by
  obtain ⟨b, c, e, hc, hl, a0, a1, a2, a3, a4, a5⟩ := h k hk
  have hx : ∀ o, u'.cell? ⟨b, o, none⟩ = u.cell? ⟨b, o, none⟩ := fun o => hb.cell (p := ⟨b, o, none⟩) hl
  exact ⟨b, c, e, hc, Nat.lt_of_lt_of_le hl hb.size, (hx _).trans a0, (hx _).trans a1, (hx _).trans a2, (hx _).trans a3, (hx _).trans a4, (hx _).trans a5⟩
theorem On.first {n : Nat} {w u : World} {g : Nat} {L : List ReqV} {S : Nat → Prop} {v : Value} {B : Nat} (h : GLo n w g 6 L 0 S u) (hr : u.ownsRow B 29 6 v L.length (reqCs L)) :
    On n w g L S v u.heap.size 0 (u.alloc (.cells #[.int .i64 0, .int .i64 0, .int .i64 0, .int .i64 0] 62)) := by
  have ha : Below u.heap.size u (u.alloc (.cells #[.int .i64 0, .int .i64 0, .int .i64 0, .int .i64 0] 62)) := (Below.refl _ _).alloc (Nat.le_refl _) _
  refine ⟨h.on ha, (AllAt.of hr).on ha, heap_alloc_new u _, fun hs => ?_, fun b c e hb => ?_, h.size⟩
  · have := (h.all hs).2.1
    omega
  · have := (hr.lt b (by rw [e]; rfl)).2
    omega

set_option maxRecDepth 100000 in
set_option maxHeartbeats 8000000 in
theorem run (ao : Option Addr) (n cap : Nat) (L0 : List ReqV) (w : World) (hn : L0.length = n) (hs : ∀ q ∈ L0, q.data.size ≤ maxLen) (HL : Hid (ReqsAt w ao L0)) :
    Calls Try.prog 8 #[.slice ao n cap] w fun e w' => e = .returned (.bool true) ∧ Below w.heap.size w w' := by
  have H1 : Hid (Calls Try.prog 11 #[.int .i64 6] w (NewX w)) := (glo_new 6 (by decide) (by decide) (Below.refl w.heap.size w) (Nat.le_refl _)).mono fun _ _ ⟨g, S, he, h⟩ => ⟨g, S, he, h.out.1⟩
  have HT := Lib.hid (fun u => told18_any u)
  have HN := Lib.hid hn
  have HS := Lib.hid hs
  clear hn hs
  go_enter Try.func8, Try.ntmps8
  go_wp2_with fail
  refine H1.out.mono ?_
  rintro e w1 ⟨g, S0, rfl, G0⟩
  by_cases h30 : 60 < n
  · go_wp2_with fail
    refine (HT.out _).mono ?_
    rintro e w2 ⟨rfl, B2⟩
    have C2 : Hid (Below w.heap.size w w2) := G0.out.bel.trans (B2.mono G0.out.size)
    clear B2
    go_wp2
    go_returns
    exact ⟨rfl, C2.out⟩
  have h31 : n ≤ 60 := by omega
  clear h30
  go_wp2
  go_loopw [5] (fun vi wr => ∃ (k : Nat) (L : List ReqV) (S : Nat → Prop), k ≤ n ∧ vi = .int .i64 k ∧ L.length ≤ k ∧ Hid (GLo w.heap.size w g 6 L 0 S wr)) (fun vi _ => n - (intOf vi).toNat)
  case atStart => exact ⟨0, [], S0, by omega, rfl, Nat.le_refl _, G0⟩
  case round =>
    obtain ⟨k, L, S, hk, rfl, hLk, HG⟩ := hrel
    clear G0 H1
    by_cases hlt : k < n
    · have hkL : k < L0.length := by rw [HN.out]; exact hlt
      obtain ⟨b, off, rfl, hb, hc⟩ := HL.out k hkL
      have FX := Lib.hid hc
      have hsz := HS.out _ (List.getElem_mem hkL)
      clear hc
      generalize L0[k] = q at FX hsz
      obtain ⟨L', p, x, hV⟩ : ∃ L' p x, lputV L q = (L', p, x) := ⟨_, _, _, rfl⟩
      have hcs := lputV_cases hV
      have i0 : (0 : Int) ≤ (k : Int) := by omega
      have i1 : (k : Int) < (n : Int) := by omega
      have HPut : Hid (∀ u, GLo w.heap.size w g 6 L 0 S u → Calls Try.prog 13 #[.pointer (some ⟨g, 0, none⟩), .agg #[.int .i64 q.client, .int .i64 q.seq, .int .i64 q.kind, .int .i64 q.id, .int .i64 q.mtch, .string q.data]] u (PutLR w.heap.size w g 6 L' p x 0 S u)) :=
        fun u hu => hu.put (by omega) q.client q.seq q.kind q.id q.mtch q.data hsz L' p x hV
      obtain ⟨f0, f1, f2, f3, f4, f5⟩ := FX.out wr HG.out.bel
      obtain ⟨cl, sq, kd, id, mt, dt⟩ := q
      simp only at HPut hsz f0 f1 f2 f3 f4 f5
      unfold maxLen at hsz
      clear hV hkL
      by_cases h100 : 100 < dt.size
      · clear hcs
        go_wp2_with fail
        refine (HT.out _).mono ?_
        rintro e w2 ⟨rfl, B2⟩
        have C2 : Hid (Below w.heap.size w w2) := HG.out.bel.trans (B2.mono HG.out.size)
        clear B2
        go_wp2
        go_returns
        exact ⟨rfl, C2.out⟩
      have h101 : dt.size ≤ 100 := by omega
      clear h100
      obtain ⟨N, hNL⟩ : ∃ N, N = L.length := ⟨_, rfl⟩
      obtain ⟨M, hM⟩ : ∃ M, M = L'.length := ⟨_, rfl⟩
      have HLen : Hid (∀ u, GLo w.heap.size w g 6 L 0 S u → Calls Try.prog 14 #[.pointer (some ⟨g, 0, none⟩)] u fun e w' => e = .returned (.int .i64 N) ∧ u = w') := fun u hu => by rw [hNL]; exact hu.len
      have HLen' : Hid (∀ S u, GLo w.heap.size w g 6 L' 0 S u → Calls Try.prog 14 #[.pointer (some ⟨g, 0, none⟩)] u fun e w' => e = .returned (.int .i64 M) ∧ u = w') := fun S u hu => by rw [hM]; exact hu.len
      have hcs' : (x = 0 ∧ p = (N : Int) + 1 ∧ M = N + 1) ∨ (x = 1 ∧ p = 0 ∧ M = N) ∨ (x = 9 ∧ p = 0 ∧ M = N) := by
        rcases hcs with ⟨a, b, c⟩ | ⟨a, b, c⟩ | ⟨a, b, c⟩
        · exact .inl ⟨a, by rw [hNL]; exact b, by rw [hNL, hM]; exact c⟩
        · exact .inr (.inl ⟨a, b, by rw [hNL, hM, c]⟩)
        · exact .inr (.inr ⟨a, b, by rw [hNL, hM, c]⟩)
      have hN60 : N ≤ k := by omega
      have hMk : L'.length ≤ k + 1 := by omega
      clear hcs hM hNL
      have HMK := Lib.hid hMk
      clear hMk
      rcases hcs' with ⟨rfl, rfl, rfl⟩ | ⟨rfl, rfl, rfl⟩ | ⟨rfl, rfl, rfl⟩
      all_goals
        go_wp2_with fail
        refine (HLen.out _ HG.out).mono ?_
        rintro e w3 ⟨rfl, rfl⟩
        go_wp2_with fail
        refine (HPut.out _ HG.out).mono ?_
        rintro e w2 ⟨rfl, S2, T2⟩
        have G2 := Lib.hid T2.lo
        clear T2 HPut HLen HG
        go_wp2_with fail
        refine (HLen'.out _ _ G2.out).mono ?_
        rintro e w3 ⟨rfl, rfl⟩
        clear HLen'
        go_wp2
        go_roundw
        case rel => exact ⟨k + 1, L', S2, by omega, by go_num, HMK.out, G2⟩
        case measure => simp [intOf]; omega
    · obtain rfl : k = n := by omega
      obtain ⟨N, hNL⟩ : ∃ N, N = L.length := ⟨_, rfl⟩
      have hN60 : N ≤ 60 := by omega
      have HLen : Hid (∀ u, GLo w.heap.size w g 6 L 0 S u → Calls Try.prog 14 #[.pointer (some ⟨g, 0, none⟩)] u fun e w' => e = .returned (.int .i64 N) ∧ u = w') := fun u hu => by rw [hNL]; exact hu.len
      have hcome : comeQ L 0 (cntQ L 0 100) = L := by
        unfold comeQ cntQ
        rw [List.drop_zero, show min (L.length - 0) (100 : Int).toNat = L.length from by have : (100 : Int).toNat = 100 := rfl; omega, List.take_length]
      have HSi : Hid (Calls Try.prog 22 #[.pointer (some ⟨g, 0, none⟩), .int .i64 0, .int .i64 100] wr (SinceR L wr)) := by
        have h := HG.out.since (by omega) 0 100
        rwa [hcome] at h
      have HNL := Lib.hid hNL
      clear hcome hNL HL HS HN
      go_wp2_with fail
      refine HSi.out.mono ?_
      rintro e w2 ⟨v, rfl, h1, h2⟩
      have G2 := Lib.hid (HG.out.on h2)
      have R2 := Lib.hid h1
      obtain ⟨a, c, hv⟩ := own_shape h1
      rw [← HNL.out] at hv
      subst hv
      clear h1 h2 HG HSi
      go_wp2_with fail
      refine (HLen.out _ G2.out).mono ?_
      rintro e w3 ⟨rfl, rfl⟩
      obtain ⟨p, hp⟩ : ∃ p, p = w2.heap.size := ⟨_, rfl⟩
      obtain ⟨w4, hw4⟩ : ∃ w4, w4 = w2.alloc (.cells #[.int .i64 0, .int .i64 0, .int .i64 0, .int .i64 0] 62) := ⟨_, rfl⟩
      have hO := On.first G2.out R2.out
      rw [← hp, ← hw4] at hO
      have HO := Lib.hid hO
      have HP := Lib.hid hp
      have HW4 := Lib.hid hw4
      clear hO hp hw4 G2 R2 HLen
      go_wp2_with fail
      rw [← HW4.out, ← HP.out]
      go_loopw [11] (fun vi wr => ∃ j : Nat, j ≤ N ∧ vi = .int .i64 j ∧ Hid (On w.heap.size w g L S (.slice a N c) p j wr)) (fun vi _ => N - (intOf vi).toNat)
      case atStart => exact ⟨0, Nat.zero_le _, rfl, HO⟩
      case round =>
        clear HO HP HW4
        obtain ⟨j, hj, rfl, HO⟩ := hrel
        by_cases hjN : j < N
        · have hjL : j < L.length := by rw [← HNL.out]; exact hjN
          obtain ⟨rb, rc, hv, hrc, hl, hcells⟩ := HO.out.all j hjL
          simp only [Value.slice.injEq] at hv
          obtain ⟨rfl, -, rfl⟩ := hv
          obtain ⟨hpt, hsl⟩ := HO.out.lo.ok.1 j hjL
          have HSt : ∀ u, On w.heap.size w g L S (.slice (some ⟨rb, 0, none⟩) N c) p j u → ∀ c' : Nat, (atL L j).client = (c' : Int) → On w.heap.size w g L S (.slice (some ⟨rb, 0, none⟩) N c) p (j + 1) (u.setCell ⟨p, c', none⟩ (.int .i64 (atL L j).seq)) := fun u hu c' hc' => hu.set hjL hc'
          have HFd : ∀ x y : Int, (atL L j).client = x → (atL L j).seq = y → ∀ u, GLo w.heap.size w g 6 L 0 S u → Calls Try.prog 20 #[.pointer (some ⟨g, 0, none⟩), .int .i64 x, .int .i64 y] u fun e w' => e = .returned (.tuple #[.int .i64 ((j : Int) + 1), .bool true]) ∧ Below u.heap.size u w' := fun x y hx hy u hu =>
            (hu.find (by omega) x y).mono fun e w' ⟨p', f, he, hf, hb⟩ => by
              rcases hf with ⟨rfl, k, rfl, hk⟩ | ⟨rfl, rfl, hno⟩
              · obtain rfl := Stands.one hu.ok.1 hk ⟨hjL, hx, hy⟩
                exact ⟨he, hb⟩
              · exact absurd ⟨hjL, hx, hy⟩ (hno j)
          obtain ⟨q, hq⟩ : ∃ q, q = atL L j := ⟨_, rfl⟩
          rw [← hq] at hcells hpt hsl HSt HFd
          obtain ⟨cl, sq, kd, id, mt, dt⟩ := q
          obtain ⟨hm, hkd⟩ := hpt
          have hm' := hm
          unfold ReqV.may at hm'
          simp only at hm' hkd hsl HSt HFd
          unfold ReqCells at hcells
          simp only at hcells
          obtain ⟨ci, rfl⟩ : ∃ x : Nat, cl = x := ⟨cl.toNat, by omega⟩
          have hci : ci < 4 := by omega
          have hdt : dt.size ≤ 64 := by omega
          have HMr : Hid (∀ u, Calls Try.prog 31 #[.agg #[.int .i64 ci, .int .i64 sq, .int .i64 kd, .int .i64 id, .int .i64 mt, .string dt]] u fun e w' => e = .returned (.bool true) ∧ Below u.heap.size u w') := fun u => refmay_r ci sq kd id mt dt (by omega) true (decide_eq_true hm).symm u
          have HWr : Hid (∀ u, Calls Try.prog 32 #[.agg #[.int .i64 ci, .int .i64 sq, .int .i64 kd, .int .i64 id, .int .i64 mt, .string dt]] u fun e w' => e = .returned (.bool true) ∧ Below u.heap.size u w') := fun u => refwrites_r ci sq kd id mt dt true (decide_eq_true (by omega)).symm u
          have HFi := Lib.hid (HFd ci sq rfl rfl)
          rw [Int.toNat_natCast] at hsl
          obtain ⟨sv, hsv⟩ : ∃ x, x = seqL (L.take j) ci := ⟨_, rfl⟩
          rw [← hsv] at hsl
          obtain ⟨B, hB⟩ : ∃ B, B = wr.heap.size := ⟨_, rfl⟩
          have hBp : p ≠ B := by have := lt_of_block HO.out.arr; omega
          obtain ⟨w5, hw5⟩ : ∃ w5, w5 = wr.alloc (.cells #[.int .i64 ci, .int .i64 sq, .int .i64 kd, .int .i64 id, .int .i64 mt, .string dt] 29) := ⟨_, rfl⟩
          have hK5 : On w.heap.size w g L S (.slice (some ⟨rb, 0, none⟩) N c) p j w5 ∧ ReqB w5 B ci sq kd id mt dt := by
            rw [hw5, hB]
            exact ⟨HO.out.on ((Below.refl _ _).alloc (Nat.le_refl _) _), ReqB.fresh wr ci sq kd id mt dt 29⟩
          have HK : Hid (∀ u, On w.heap.size w g L S (.slice (some ⟨rb, 0, none⟩) N c) p j u ∧ ReqB u B ci sq kd id mt dt → ∀ u', Below u.heap.size u u' → On w.heap.size w g L S (.slice (some ⟨rb, 0, none⟩) N c) p j u' ∧ ReqB u' B ci sq kd id mt dt) := fun u hu u' hb => ⟨hu.1.on hb, hu.2.keep hb hu.2.lt⟩
          have HZ : Hid (∀ u, On w.heap.size w g L S (.slice (some ⟨rb, 0, none⟩) N c) p j u → u.cell? ⟨p, ci, none⟩ = some (.int .i64 sv) ∧ u.frozen? ⟨p, ci, none⟩ = false) := fun u hu => by rw [hsv]; exact hu.cell hci
          have HST : Hid (∀ u, On w.heap.size w g L S (.slice (some ⟨rb, 0, none⟩) N c) p j u ∧ ReqB u B ci sq kd id mt dt → On w.heap.size w g L S (.slice (some ⟨rb, 0, none⟩) N c) p (j + 1) (u.setCell ⟨p, ci, none⟩ (.int .i64 sq)) ∧ ReqB (u.setCell ⟨p, ci, none⟩ (.int .i64 sq)) B ci sq kd id mt dt) := fun u hu =>
            ⟨HSt u hu.1 ci rfl, hu.2.only (S := (· = p)) ⟨rfl, rfl, rfl, by simp [World.setCell], fun k _ hk => Below.heap_setCell _ _ _ _ hk⟩ (fun e => hBp e.symm)⟩
          have K5 := Lib.hid hK5
          have HW5 := Lib.hid hw5
          have HBB := Lib.hid hB
          obtain ⟨x0, x1, x2, x3, x4, x5⟩ := hcells
          have ci0 : (0 : Int) ≤ (ci : Int) := by omega
          have ci4 : (ci : Int) < 4 := by omega
          have j0 : (0 : Int) ≤ (j : Int) := by omega
          have jN : (j : Int) < (N : Int) := by omega
          have hsl' : ¬ sq ≤ sv := by omega
          clear HSt HFd hq hm hm' hkd hsv hw5 hB hK5 hl hrc HO
          go_upto_region 23 with fail
          rw [← HW5.out, ← HBB.out]
          obtain ⟨d0, d1, d2, d3, d4, d5⟩ := K5.out.2.cells
          obtain ⟨z0, _⟩ := HZ.out _ K5.out.1
          clear x0 x1 x2 x3 x4 x5
          go_region_held3 (fun u => u.cell? ⟨B, 0, none⟩ = some (.int .i64 ci) ∧ u.cell? ⟨B, 1, none⟩ = some (.int .i64 sq) ∧ u.cell? ⟨B, 2, none⟩ = some (.int .i64 kd) ∧ u.cell? ⟨B, 3, none⟩ = some (.int .i64 id) ∧ u.cell? ⟨B, 4, none⟩ = some (.int .i64 mt) ∧ u.cell? ⟨B, 5, none⟩ = some (.string dt) ∧ u.cell? ⟨p, ci, none⟩ = some (.int .i64 sv)) (first | assumption | go_keep)
            (first
              | (go_at_call 31
                 refine (HMr.out _).mono ?_
                 rintro e wa ⟨rfl, hb⟩
                 have K6 := Lib.hid (HK.out _ K5.out _ ((show Below w5.heap.size w5 _ by go_grown).trans hb))
                 obtain ⟨d0', d1', d2', d3', d4', d5'⟩ := K6.out.2.cells
                 obtain ⟨z0', _⟩ := HZ.out _ K6.out.1
                 clear hb)
              | (go_at_call 32
                 refine (HWr.out _).mono ?_
                 rintro e wb ⟨rfl, hb⟩
                 have K7 := Lib.hid (HK.out _ K6.out _ ((show Below wa.heap.size wa _ by go_grown).trans hb))
                 obtain ⟨d0'', d1'', d2'', d3'', d4'', d5''⟩ := K7.out.2.cells
                 obtain ⟨z0'', _⟩ := HZ.out _ K7.out.1
                 clear hb))
          have K8 := Lib.hid (HST.out _ K7.out)
          obtain ⟨_, zf⟩ := HZ.out _ K7.out.1
          obtain ⟨s0, s1, s2, s3, s4, s5⟩ := K8.out.2.cells
          clear HK HZ HST K5 K6 K7 HMr HWr
          go_wp2_with fail
          refine (HFi.out _ K8.out.1.lo).mono ?_
          rintro e wd ⟨rfl, hb⟩
          have K9 := Lib.hid (K8.out.1.on hb)
          clear hb K8 HFi s0 s1 s2 s3 s4 s5 zf
          go_wp2
          go_roundw
          case rel => exact ⟨j + 1, by omega, by go_num, K9⟩
          case measure => simp [intOf]; omega
        · obtain rfl : j = N := by omega
          have hj4 : L.take j = L := by rw [HNL.out, List.take_length]
          have HSq : Hid (∀ x : Nat, x < 4 → ∀ u, On w.heap.size w g L S (.slice a j c) p j u → Calls Try.prog 23 #[.pointer (some ⟨g, 0, none⟩), .int .i64 (x : Int)] u fun e w' => e = .returned (.int .i64 (seqL L x)) ∧ Below u.heap.size u w') := fun x hx u hu => hu.lo.seq (by omega) x _ (by unfold seqV; rw [if_pos (by omega), Int.toNat_natCast])
          have HCl : Hid (∀ x : Nat, x < 4 → ∀ u, On w.heap.size w g L S (.slice a j c) p j u → u.cell? ⟨p, x, none⟩ = some (.int .i64 (seqL L x))) := fun x hx u hu => by
            have h := (hu.cell hx).1
            rwa [hj4] at h
          clear hj4
          go_wp2
          go_loopw [15] (fun vi wr => ∃ x : Nat, x ≤ 4 ∧ vi = .int .i64 x ∧ Hid (On w.heap.size w g L S (.slice a j c) p j wr)) (fun vi _ => 4 - (intOf vi).toNat)
          case atStart => exact ⟨0, by omega, rfl, HO⟩
          case round =>
            clear HO
            obtain ⟨x, hx, rfl, HO⟩ := hrel
            by_cases hx4 : x < 4
            · have c1 := HSq.out x hx4
              have z0 := HCl.out x hx4 _ HO.out
              have HC1 := Lib.hid c1
              have HCl' := Lib.hid (HCl.out x hx4)
              have x0 : (0 : Int) ≤ (x : Int) := by omega
              have x4 : (x : Int) < 4 := by omega
              generalize seqL L x = M at HC1 z0 HCl'
              clear c1
              go_upto_region 32 with fail
              go_region_held3 (fun u => u.cell? ⟨p, x, none⟩ = some (.int .i64 M)) (first | assumption | go_keep)
                (first
                  | (go_at_call 23
                     refine (HC1.out _ (HO.out.on (by go_grown))).mono ?_
                     rintro e wa ⟨rfl, hb⟩
                     have K6 := Lib.hid (HO.out.on ((show Below wr.heap.size wr _ by go_grown).trans hb))
                     have z1 := HCl'.out _ K6.out
                     clear hb))
              clear HC1 HCl' HO HSq HCl
              go_wp2
              go_roundw
              case rel => exact ⟨x + 1, by omega, by go_num, K6⟩
              case measure => simp [intOf]; omega
            · obtain rfl : x = 4 := by omega
              go_wp2_with fail
              refine (HT.out _).mono ?_
              rintro e w5 ⟨rfl, B5⟩
              have C5 := Lib.hid (HO.out.on B5).lo.bel
              clear B5 HO
              go_wp2
              go_returns
              exact ⟨rfl, C5.out⟩

theorem walk (v : Value) (L : List ReqV) (w : World) (hV : Reqs w w.heap.size v L) :
    Calls Try.prog 8 #[v] w fun e w' => e = .returned (.bool true) ∧ Below w.heap.size w w' := by
  have hV' := hV
  obtain ⟨ao, cap, rfl, _⟩ := hV
  obtain ⟨hat, _, hml, hms⟩ := reqs_at hV'
  exact run ao _ cap L w rfl hms hat

set_option maxRecDepth 100000 in
theorem lifted (os : Os) (started : os.Started) (H : Type) (enc : TypeId × Value → H) :
    ReturnsInHanded {} Try.checked os 8 .any (Rows.lineOnceSpec.pre6 enc Try.prog Try.f8 Rows.lineOnceRow.domain false) (Rows.lineOnceSpec.post enc Try.prog Try.f8 false true false false) := by
  refine returnsInHanded_of_change (C := Try.checked) own started (by kernel_rfl) Try.func8
    (ChangeSpec.witness6 (enc := enc) (C := Try.checked) false ⟨#[], #[.slice none 0 0], []⟩ 8 (by kernel_rfl) (by kernel_rfl) (by kernel_rfl) (by kernel_rfl)) ?_
  intro W base args ds gs before hval0 hW hcnd _
  have hval : ∀ (j : Nat) t v, Try.f8.params[j]? = some t → args[j]? = some v → Value.okWide Try.prog W .any base t v := hval0
  have hW' := hW
  obtain ⟨p, q, hA0, hV, rfl, hfz, hnd⟩ := hW
  have hA : DataW.TrodAll enc Try.prog W 0 (fun _ => true) true Try.f8.params.toList args.toList ds p := hA0
  rw [Try.params8] at hA hval
  obtain ⟨v0, vs0, d0, ds0, p0, q0, hargs, rfl, rfl, h0, r0⟩ := trodAll_cons hA
  obtain ⟨rfl, rfl, rfl⟩ := trodAll_nil r0
  obtain rfl : args = #[v0] := by cases args; simp_all
  obtain ⟨rfl, rfl⟩ := trodVars_none hV
  obtain ⟨a0, len0, cap0, rfl⟩ := okWide_slice Try.underlying22 (hval 0 22 v0 rfl rfl)
  have k0 := h0
  have lt0 : ∀ x ∈ p0, x.block < W.heap.size := by obtain ⟨m, hm⟩ := k0; exact DataW.trod_lt m _ _ _ hm
  obtain ⟨l0, w0⟩ := reqs_open h0
  clear hA0 hval0
  refine (walk (.slice a0 len0 cap0) l0 W w0).mono fun e W' ⟨he, bel⟩ => ?_
  subst he
  exact ⟨_, rfl, _, _, _, [], _, [], hW', trodAll_mk1 (shut_bool Try.underlying4 _), (trodAll_cons_mk (Below.trod laidOut (by kernel_rfl) (of_decide_eq_true (by kernel_rfl)) k0 bel lt0) trodAll_mk0), rfl, bel.frame _, fun h => by cases h⟩

theorem over : Rows.lineOnceRow.holds Try.pinned (OpenSpec.ofChange Rows.lineOnceSpec) :=
  OpenClaim.holds_of_wide 8 Try.f8 rfl rfl rfl rfl rfl rfl rfl ⟨rfl, rfl, rfl, rfl, rfl⟩ rfl rfl rfl rfl rfl (by kernel_rfl) Try.func8 (by kernel_rfl)
    (of_decide_eq_true (by kernel_rfl)) (by unfold Func.isWrapper; first | (rw [if_pos (by decide +kernel)]; kernel_rfl) | (rw [if_neg (by decide +kernel)]; exact ⟨rfl, rfl⟩))
    (fun os started H enc _ => lifted os started H enc)
end Go.Proofs.Ytkbjnhonopgffaa.LineOnce

namespace Go.Proofs.Ytkbjnhonopgffaa
theorem lineOnce_holds : Rows.LineOnceSaid := LineOnce.over
#print axioms lineOnce_holds
end Go.Proofs.Ytkbjnhonopgffaa
