/-
  PROVED: casebooklaw6.BookSets answers true and leaves its arguments as they were, for any two slices of ints: the row's own reading and nothing else is assumed.
-/
import Derived.Test.YtkieifkbkmdgdaaBookS
import Derived.Test.YtkieifkbkmdgdaaItemRC
namespace Go.Proofs.Ytkieifkbkmdgdaa.BookSets
open Go.ChangeShapes Go.WideShapes Go.ChangeAt Go.RowKit

/-- The table behind k of the keys, each with 1. -/
def puts (g : Nat → Int) : Nat → List (Int × Int)
  | 0 => []
  | k + 1 => putL (g k) 1 (puts g k)
theorem puts_len (g : Nat → Int) : ∀ k, (puts g k).length ≤ k
  | 0 => Nat.le_refl _
  | k + 1 => by have := puts_len g k; have := putL_len (g k) 1 (puts g k); simp only [puts]; omega
theorem puts_rise (g : Nat → Int) : ∀ k, Rise (puts g k)
  | 0 => List.Pairwise.nil
  | k + 1 => (puts_rise g k).put _ _
theorem puts_mem (g : Nat → Int) : ∀ (k : Nat) (x : Int × Int), x ∈ puts g k ↔ x.2 = 1 ∧ ∃ j, j < k ∧ g j = x.1
  | 0, x => by simp [puts]
  | k + 1, x => by
    simp only [puts]
    rw [putL_iff, puts_mem g k x]
    constructor
    · rintro (rfl | ⟨⟨h1, j, hj, h2⟩, _⟩)
      · exact ⟨rfl, k, by omega, rfl⟩
      · exact ⟨h1, j, by omega, h2⟩
    · rintro ⟨h1, j, hj, h2⟩
      by_cases e : x.1 = g k
      · exact .inl (Prod.ext e h1)
      · refine .inr ⟨⟨h1, j, ?_, h2⟩, e⟩
        rcases Nat.lt_or_ge j k with h | h
        · exact h
        · obtain rfl : j = k := by omega
          exact absurd h2.symm e
theorem puts_back (g : Nat → Int) (n : Nat) : puts (fun k => g (n - 1 - k)) n = puts g n := by
  refine rise_ext (puts_rise _ _) (puts_rise _ _) fun x => ?_
  rw [puts_mem, puts_mem]
  refine ⟨fun ⟨h, j, hj, e⟩ => ⟨h, n - 1 - j, by omega, e⟩, fun ⟨h, j, hj, e⟩ => ⟨h, n - 1 - j, by omega, ?_⟩⟩
  show g (n - 1 - (n - 1 - j)) = _
  rw [show n - 1 - (n - 1 - j) = j by omega]
  exact e
theorem puts_low (l : List Int) (h : ∀ x ∈ l, Wf x) : ∀ x ∈ puts (fun k => l.getD k 0) l.length, -9223372036854775808 ≤ x.1 := by
  intro x hx
  obtain ⟨_, j, hj, e⟩ := (puts_mem _ _ _).1 hx
  rw [← e]
  exact (h _ (getD_mem hj)).1

/-- The table when k of the keys have been taken out. -/
def dels (out : List Int) (L : List (Int × Int)) : Nat → List (Int × Int)
  | 0 => L
  | k + 1 => delL (out.getD k 0) (dels out L k)
theorem dels_len (out : List Int) (L : List (Int × Int)) : ∀ k, (dels out L k).length ≤ L.length
  | 0 => Nat.le_refl _
  | k + 1 => Nat.le_trans (delL_len _ _) (dels_len out L k)
theorem dels_mem (out : List Int) (L : List (Int × Int)) : ∀ (k : Nat) (x : Int × Int), x ∈ dels out L k ↔ x ∈ L ∧ ∀ j, j < k → x.1 ≠ out.getD j 0
  | 0, x => by simp [dels]
  | k + 1, x => by
    simp only [dels]
    rw [delL_mem, dels_mem out L k x]
    constructor
    · rintro ⟨⟨h1, h2⟩, h3⟩
      refine ⟨h1, fun j hj => ?_⟩
      rcases Nat.lt_or_ge j k with h | h
      · exact h2 j h
      · obtain rfl : j = k := by omega
        exact h3
    · rintro ⟨h1, h2⟩
      exact ⟨⟨h1, fun j hj => h2 j (by omega)⟩, h2 k (by omega)⟩
theorem dels_get (out : List Int) (L : List (Int × Int)) (k j : Nat) (h : j < k) : getL (out.getD j 0) (dels out L k) = none :=
  getL_no fun x hx => ((dels_mem out L k x).1 hx).2 j h

set_option maxRecDepth 100000 in
set_option maxHeartbeats 4000000 in
theorem early (v1 v2 : Value) (n m : Nat) (a1 a2 : Option Addr) (c1 c2 : Nat) (w : World) (hv1 : v1 = .slice a1 n c1) (hv2 : v2 = .slice a2 m c2) (hbig : 60 < n ∨ 60 < m) :
    Calls Try.prog 6 #[v1, v2] w fun e w' => e = .returned (.bool true) ∧ Below w.heap.size w w' := by
  subst hv1 hv2
  have HN := Lib.hid (new_o w w w.heap.size (Below.refl _ _) (Nat.le_refl _))
  have HT := Lib.hid (fun u => told6_any u)
  have H2 : Hid (∀ u, BkO w.heap.size w w.heap.size [] u → Calls Try.prog 7 #[] u fun e w' => e = .returned (.pointer (some ⟨u.heap.size, 0, none⟩)) ∧ Below w.heap.size w w') :=
    fun u hu => (two_new w u w.heap.size hu).mono fun e w' ⟨he, h⟩ => ⟨he, h.bel⟩
  rcases (show 60 < n ∨ (n ≤ 60 ∧ 60 < m) by omega) with h | ⟨h, h'⟩
  all_goals
    clear hbig
    go_enter Try.func6, Try.ntmps6
    go_wp2_with fail
    refine HN.out.mono ?_
    rintro e w1 ⟨rfl, hb⟩
    have B1 := Lib.hid hb
    clear hb
    go_wp2_with fail
    refine (H2.out _ B1.out).mono ?_
    rintro e w2 ⟨rfl, hb⟩
    have B2 := Lib.hid hb
    clear hb
    go_wp2_with fail
    refine (HT.out _).mono ?_
    rintro e w3 ⟨rfl, hb⟩
    have B3 := Lib.hid (B2.out.trans (hb.mono B2.out.size))
    clear hb
    go_wp2
    go_returns
    exact ⟨rfl, B3.out⟩

set_option maxRecDepth 100000 in
set_option maxHeartbeats 4000000 in
theorem main (l out : List Int) (n m : Nat) (a1 a2 : Option Addr) (c1 c2 : Nat) (w : World) (hI1 : Ints w w.heap.size (.slice a1 n c1) l) (hI2 : Ints w w.heap.size (.slice a2 m c2) out) (hwf : ∀ x ∈ l, Wf x) (hn : n ≤ 60) (hm : m ≤ 60) :
    Calls Try.prog 6 #[.slice a1 n c1, .slice a2 m c2] w fun e w' => e = .returned (.bool true) ∧ Below w.heap.size w w' := by
  have HI1 := Lib.hid hI1
  have HI2 := Lib.hid hI2
  have HL := Lib.hid (ints_len6 hI1)
  have HO := Lib.hid (ints_len6 hI2)
  have HN := Lib.hid (new_o w w w.heap.size (Below.refl _ _) (Nat.le_refl _))
  have HT := Lib.hid (fun u => told6_any u)
  have H2 : Hid (∀ u, BkO w.heap.size w w.heap.size [] u → Calls Try.prog 7 #[] u fun e w' => e = .returned (.pointer (some ⟨u.heap.size, 0, none⟩)) ∧ Two w.heap.size w w.heap.size u.heap.size [] [] w') :=
    fun u hu => two_new w u w.heap.size hu
  have HP1 : Hid (∀ B u k x, k ≤ 60 → x = l.getD k 0 → Two w.heap.size w w.heap.size B (puts (fun k => l.getD k 0) k) (puts (fun k => l.getD (n - 1 - k) 0) k) u → Calls Try.prog 8 #[.pointer (some ⟨w.heap.size, 0, none⟩), .int .i64 x, .int .i64 1] u fun e w' => (∃ y z, e = .returned (.tuple #[.int .i64 y, .bool z])) ∧ Two w.heap.size w w.heap.size B (puts (fun k => l.getD k 0) (k + 1)) (puts (fun k => l.getD (n - 1 - k) 0) k) w') := by
    intro B u k x hk hx h
    subst hx
    exact (two_put h (by have := puts_len (fun k => l.getD k 0) k; omega) _ _).mono fun e w' ⟨he, hb⟩ => ⟨⟨_, _, he⟩, hb⟩
  have HP2 : Hid (∀ B u k x, k ≤ 60 → x = l.getD (n - 1 - k) 0 → Two w.heap.size w w.heap.size B (puts (fun k => l.getD k 0) (k + 1)) (puts (fun k => l.getD (n - 1 - k) 0) k) u → Calls Try.prog 8 #[.pointer (some ⟨B, 0, none⟩), .int .i64 x, .int .i64 1] u fun e w' => (∃ y z, e = .returned (.tuple #[.int .i64 y, .bool z])) ∧ Two w.heap.size w w.heap.size B (puts (fun k => l.getD k 0) (k + 1)) (puts (fun k => l.getD (n - 1 - k) 0) (k + 1)) w') := by
    intro B u k x hk hx h
    subst hx
    exact (two_put h.symm (by have := puts_len (fun k => l.getD (n - 1 - k) 0) k; omega) _ _).mono fun e w' ⟨he, hb⟩ => ⟨⟨_, _, he⟩, hb.symm⟩
  obtain ⟨L, hL⟩ : ∃ L, L = puts (fun k => l.getD k 0) n := ⟨_, rfl⟩
  have HLL : Hid (puts (fun k => l.getD k 0) n = L ∧ puts (fun k => l.getD (n - 1 - k) 0) n = L) := ⟨hL.symm, by rw [hL]; exact puts_back (fun k => l.getD k 0) n⟩
  have hlen : L.length ≤ 60 := by rw [hL]; have := puts_len (fun k => l.getD k 0) n; omega
  have hlow : ∀ x ∈ L, -9223372036854775808 ≤ x.1 := by rw [hL, HL.out]; exact puts_low l hwf
  have HDL : Hid (∀ k, (dels out L k).length ≤ 60 ∧ ∀ x ∈ dels out L k, -9223372036854775808 ≤ x.1) :=
    fun k => ⟨Nat.le_trans (dels_len out L k) hlen, fun x hx => hlow x ((dels_mem out L k x).1 hx).1⟩
  have HK : Hid (∀ A B D u, D.length ≤ 60 → (∀ x ∈ D, -9223372036854775808 ≤ x.1) → Two w.heap.size w A B D D u → Calls Try.prog 21 #[.pointer (some ⟨A, 0, none⟩)] u (TellsT (keysL D) w.heap.size w A B D D u)) :=
    fun A B D u h1 h2 h => two_keys h (by omega) h2
  have HX : Hid (∀ a1 c1 a2 c2 n1 n2 (X : List Int) u, X.length ≤ 1000 → Ints u u.heap.size (.slice a1 n1 c1) X → Ints u u.heap.size (.slice a2 n2 c2) X → Calls Try.prog 14 #[.slice a1 n1 c1, .slice a2 n2 c2] u fun e w' => e = .returned (.bool true) ∧ Below u.heap.size u w') := by
    intro a1 c1 a2 c2 n1 n2 X u hX h1 h2
    have h := refints_any _ _ X X u.heap.size u h1 h2 (Nat.le_refl _) (by omega)
    rwa [decide_eq_true rfl] at h
  clear hI1 hI2 hwf hL hlow
  go_enter Try.func6, Try.ntmps6
  go_wp2_with fail
  refine HN.out.mono ?_
  rintro e w1 ⟨rfl, hb⟩
  have B1 := Lib.hid hb
  clear hb
  go_wp2_with fail
  refine (H2.out _ B1.out).mono ?_
  rintro e w2 ⟨rfl, hb⟩
  generalize w1.heap.size = B at hb ⊢
  have B2 := Lib.hid hb
  clear hb B1 H2 HN
  go_wp2_with fail
  go_loopw [7] (fun vi wr => ∃ k : Nat, k ≤ n ∧ vi = .int .i64 k ∧ Two w.heap.size w w.heap.size B (puts (fun k => l.getD k 0) k) (puts (fun k => l.getD (n - 1 - k) 0) k) wr) (fun vi _ => 200 - (intOf vi).toNat)
  case atStart => exact ⟨0, by omega, rfl, B2.out⟩
  case round =>
    obtain ⟨k, hk, rfl, hb⟩ := hrel
    have HB := Lib.hid hb
    clear hb
    by_cases hlt : k < n
    · obtain ⟨b, off, rfl, hbw, hc⟩ := ints_at6 HI1.out (by omega)
      obtain ⟨x, hx⟩ : ∃ x, x = l.getD k 0 := ⟨_, rfl⟩
      obtain ⟨y, hy⟩ : ∃ y, y = l.getD (n - 1 - k) 0 := ⟨_, rfl⟩
      obtain ⟨p, hp⟩ : ∃ p, p = n - 1 - k := ⟨_, rfl⟩
      have CX : Hid (∀ u, Below w.heap.size w u → u.cell? ⟨b, off + k, none⟩ = some (.int .i64 x) ∧ u.cell? ⟨b, off + p, none⟩ = some (.int .i64 y)) := by
        intro u hu
        exact ⟨by rw [hx, ← hc k hlt]; exact hu.cell (p := ⟨b, off + k, none⟩) hbw, by rw [hy, ← hp, ← hc p (by omega)]; exact hu.cell (p := ⟨b, off + p, none⟩) hbw⟩
      have hxc := (CX.out wr HB.out.bel).1
      have e1 : (n : Int) - 1 - (k : Int) = (p : Int) := by omega
      have e2 : IntKind.i64.wrap ((n : Int) - 1) = (n : Int) - 1 := IntWalk.i64_in _ (by omega)
      have k0 : (0 : Int) ≤ (k : Int) := by omega
      have k1 : (k : Int) < (n : Int) := by omega
      have p1 : (p : Int) < (n : Int) := by omega
      have HXX := Lib.hid hx
      have HYY := Lib.hid hy
      have KK : Hid (k ≤ 60) := by show k ≤ 60; omega
      clear hx hy hc hbw hp
      go_wp2_with fail
      refine (HP1.out _ _ _ _ KK.out HXX.out HB.out).mono ?_
      rintro e w3 ⟨⟨y1, z1, rfl⟩, hb⟩
      have B3 := Lib.hid hb
      have hyc := (CX.out w3 B3.out.bel).2
      clear hb hxc
      go_wp2_with fail
      refine (HP2.out _ _ _ _ KK.out HYY.out B3.out).mono ?_
      rintro e w4 ⟨⟨y2, z2, rfl⟩, hb⟩
      have B4 := Lib.hid hb
      clear hb hyc B3
      go_wp2
      go_roundw
      case rel => exact ⟨k + 1, by omega, by go_num, B4.out⟩
      case measure => simp [intOf]; omega
    · obtain rfl : k = n := by omega
      have B3 : Hid (Two w.heap.size w w.heap.size B (dels out L 0) (dels out L 0) wr) := by
        have h := HB.out
        rw [HLL.out.1, HLL.out.2] at h
        exact h
      clear hlt hk HB HP1 HP2 HLL
      go_wp2_with fail
      refine (HK.out _ _ _ _ (HDL.out 0).1 (HDL.out 0).2 B3.out).mono ?_
      rintro e w3 ⟨ak, ck, rfl, hi, hb, _⟩
      have I3 := Lib.hid hi
      have B4 := Lib.hid hb
      clear hi hb B3
      generalize hq : (keysL (dels out L 0)).length = q at I3 ⊢
      go_wp2_with fail
      refine (HK.out _ _ _ _ (HDL.out 0).1 (HDL.out 0).2 B4.out.symm).mono ?_
      rintro e w4 ⟨ak2, ck2, rfl, hi, hb, hbel⟩
      have I4 := Lib.hid hi
      have I3' := Lib.hid ((I3.out.keep hbel).mono hbel.size)
      have B5 := Lib.hid hb.symm
      clear hi hb B4 I3 hbel
      rw [hq] at I4 ⊢
      have KQ : Hid ((keysL (dels out L 0)).length ≤ 1000) := by show _ ≤ _; simp [keysL]; have := (HDL.out 0).1; omega
      clear hq
      go_wp2_with fail
      refine (HX.out _ _ _ _ _ _ _ _ KQ.out I3'.out I4.out).mono ?_
      rintro e w5 ⟨rfl, hb⟩
      have B6 := Lib.hid (B5.out.on hb)
      clear hb B5 I3' I4 KQ
      go_wp2_with fail
      go_loopw [8] (fun vi wr => ∃ k : Nat, k ≤ m ∧ vi = .int .i64 k ∧ Two w.heap.size w w.heap.size B (dels out L k) (dels out L k) wr) (fun vi _ => 200 - (intOf vi).toNat)
      case atStart => exact ⟨0, by omega, rfl, B6.out⟩
      case round =>
        obtain ⟨j, hj, rfl, hb⟩ := hrel
        have HB := Lib.hid hb
        clear hb
        by_cases hlt : j < m
        · obtain ⟨b, off, rfl, hbw, hc⟩ := ints_at6 HI2.out (by omega)
          obtain ⟨o, ho⟩ : ∃ o, o = out.getD j 0 := ⟨_, rfl⟩
          obtain ⟨D, hD⟩ : ∃ D, D = dels out L j := ⟨_, rfl⟩
          have HD2 : Hid (dels out L (j + 1) = delL o D) := by show _ = _; rw [ho, hD]; rfl
          have CX : Hid (∀ u, Below w.heap.size w u → u.cell? ⟨b, off + j, none⟩ = some (.int .i64 o)) := by
            intro u hu
            rw [ho, ← hc j hlt]; exact hu.cell (p := ⟨b, off + j, none⟩) hbw
          have hDl : D.length ≤ 60 := by rw [hD]; exact (HDL.out j).1
          have KL := Lib.hid hDl
          rw [← hD] at HB
          obtain ⟨s, hs⟩ : ∃ s, s = (getL o D).isSome := ⟨_, rfl⟩
          have G1 : Hid (∀ u, Two w.heap.size w w.heap.size B D D u → Calls Try.prog 12 #[.pointer (some ⟨w.heap.size, 0, none⟩), .int .i64 o] u fun e w' => (∃ y, e = .returned (.tuple #[.int .i64 y, .bool s])) ∧ Two w.heap.size w w.heap.size B D D w') :=
            fun u hu => (two_get hu o).mono fun e w' ⟨he, hb⟩ => ⟨⟨_, by rw [hs]; exact he⟩, hb⟩
          have G2 : Hid (∀ u, Two w.heap.size w w.heap.size B D D u → Calls Try.prog 10 #[.pointer (some ⟨w.heap.size, 0, none⟩), .int .i64 o] u fun e w' => e = .returned (.bool s) ∧ Two w.heap.size w w.heap.size B (delL o D) D w') :=
            fun u hu => (two_del hu (by omega) o).mono fun e w' ⟨he, hb⟩ => ⟨by rw [hs]; exact he, hb⟩
          have G3 : Hid (∀ u, Two w.heap.size w w.heap.size B (delL o D) D u → Calls Try.prog 10 #[.pointer (some ⟨B, 0, none⟩), .int .i64 o] u fun e w' => e = .returned (.bool s) ∧ Two w.heap.size w w.heap.size B (delL o D) (delL o D) w') :=
            fun u hu => (two_del hu.symm (by omega) o).mono fun e w' ⟨he, hb⟩ => ⟨by rw [hs]; exact he, hb.symm⟩
          have hxc := CX.out wr HB.out.bel
          have k0 : (0 : Int) ≤ (j : Int) := by omega
          have k1 : (j : Int) < (m : Int) := by omega
          clear hs hc hbw ho hD hDl
          cases s
          all_goals
            go_wp2_with fail
            refine (G1.out _ HB.out).mono ?_
            rintro e w6 ⟨⟨yy, rfl⟩, hb⟩
            have B7 := Lib.hid hb
            have hxc6 := CX.out w6 B7.out.bel
            clear hb
            go_wp2_with fail
            refine (G2.out _ B7.out).mono ?_
            rintro e w7 ⟨rfl, hb⟩
            have B8 := Lib.hid hb
            have hxc7 := CX.out w7 B8.out.bel
            clear hb B7 hxc6
            go_wp2_with fail
            refine (G3.out _ B8.out).mono ?_
            rintro e w8 ⟨rfl, hb⟩
            have B9 := Lib.hid hb
            clear hb B8 hxc7
            go_wp2
            go_roundw
            case rel => exact ⟨j + 1, by omega, by go_num, by rw [HD2.out]; exact B9.out⟩
            case measure => simp [intOf]; omega
        · obtain rfl : j = m := by omega
          obtain ⟨D, hD⟩ : ∃ D, D = dels out L j := ⟨_, rfl⟩
          have hDl : D.length ≤ 60 := by rw [hD]; exact (HDL.out j).1
          have hDw : ∀ x ∈ D, -9223372036854775808 ≤ x.1 := by rw [hD]; exact (HDL.out j).2
          have HG : Hid (∀ i o, i < j → o = out.getD i 0 → getL o D = none) := by
            intro i o hi ho
            rw [hD, ho]
            exact dels_get out L j i hi
          rw [← hD] at HB
          have G1 : Hid (∀ u o, getL o D = none → Two w.heap.size w w.heap.size B D D u → Calls Try.prog 12 #[.pointer (some ⟨w.heap.size, 0, none⟩), .int .i64 o] u fun e w' => (∃ y, e = .returned (.tuple #[.int .i64 y, .bool false])) ∧ Two w.heap.size w w.heap.size B D D w') := by
            intro u o ho hu
            refine (two_get hu o).mono fun e w' ⟨he, hb⟩ => ⟨⟨0, ?_⟩, hb⟩
            rw [ho] at he
            exact he
          obtain ⟨X, hX⟩ : ∃ X, X = keysL D := ⟨_, rfl⟩
          obtain ⟨F, hF⟩ : ∃ F, F = X.filter fun x => decide (-4611686018427387904 ≤ x) := ⟨_, rfl⟩
          obtain ⟨q, hq⟩ : ∃ q, q = D.length := ⟨_, rfl⟩
          have hXl : X.length = q := by rw [hX, hq]; simp [keysL]
          have hFl : F.length ≤ 60 := by rw [hF]; have := List.length_filter_le (fun x => decide (-4611686018427387904 ≤ x)) X; omega
          have G2 : Hid (∀ u, Two w.heap.size w w.heap.size B D D u → Calls Try.prog 21 #[.pointer (some ⟨w.heap.size, 0, none⟩)] u fun e w' => ∃ ao cap, e = .returned (.slice ao q cap) ∧ Ints w' w'.heap.size (.slice ao q cap) X ∧ Two w.heap.size w w.heap.size B D D w' ∧ Below u.heap.size u w') := by
            intro u hu
            have h := two_keys hu (by omega) hDw
            unfold TellsT at h
            rwa [← hX, hXl] at h
          have G3 : Hid (∀ u, Two w.heap.size w w.heap.size B D D u → Calls Try.prog 21 #[.pointer (some ⟨B, 0, none⟩)] u fun e w' => ∃ ao cap, e = .returned (.slice ao q cap) ∧ Ints w' w'.heap.size (.slice ao q cap) X ∧ Two w.heap.size w w.heap.size B D D w' ∧ Below u.heap.size u w') := by
            intro u hu
            refine (two_keys hu.symm (by omega) hDw).mono fun e w' ⟨ao, cap, h1, h2, h3, h4⟩ => ?_
            rw [← hX, hXl] at h1 h2
            exact ⟨ao, cap, h1, h2, h3.symm, h4⟩
          have G4 : Hid (∀ u, Two w.heap.size w w.heap.size B D D u → Calls Try.prog 15 #[.pointer (some ⟨w.heap.size, 0, none⟩), .int .i64 (-4611686018427387904), .int .i64 100] u fun e w' => ∃ ao cap, e = .returned (.slice ao F.length cap) ∧ Ints w' w'.heap.size (.slice ao F.length cap) F ∧ Two w.heap.size w w.heap.size B D D w' ∧ Below u.heap.size u w') := by
            intro u hu
            have h := two_from hu (by omega) (-4611686018427387904) 100
            rw [upL_keys, ← hX, ← hF, List.take_of_length_le (show F.length ≤ (100 : Int).toNat by simp; omega)] at h
            exact h
          have G5 : Hid (∀ a c u, Ints u u.heap.size (.slice a q c) X → Calls Try.prog 23 #[.slice a q c] u fun e w' => ∃ ao cap, e = .returned (.slice ao F.length cap) ∧ Ints w' w'.heap.size (.slice ao F.length cap) F ∧ Below u.heap.size u w') := by
            intro a c u hi
            have h := firsts_any _ X u hi (by omega)
            rw [← hF] at h
            exact h
          have G6 : Hid (∀ u, Two w.heap.size w w.heap.size B D D u → Calls Try.prog 20 #[.pointer (some ⟨w.heap.size, 0, none⟩)] u fun e w' => e = .returned (.int .i64 q) ∧ u = w') := by
            intro u hu
            have h := two_len hu
            rwa [← hq] at h
          have KX : Hid (X.length ≤ 1000) := by show _ ≤ _; omega
          have KF : Hid (F.length ≤ 1000) := by show _ ≤ _; omega
          obtain ⟨f, hf⟩ : ∃ f, f = F.length := ⟨_, rfl⟩
          rw [← hf] at G4 G5
          have hj60 : (j : Int) ≤ 60 := by omega
          clear hD hDl hDw hX hF hq hXl hFl hf hlen HDL HK hlt hj
          go_wp2_with fail
          go_loopw [11] (fun vi wr => ∃ i : Nat, i ≤ j ∧ vi = .int .i64 i ∧ Two w.heap.size w w.heap.size B D D wr) (fun vi _ => 200 - (intOf vi).toNat)
          case atStart => exact ⟨0, by omega, rfl, HB.out⟩
          case round =>
            obtain ⟨i, hi, rfl, hb⟩ := hrel
            have HB2 := Lib.hid hb
            clear hb
            by_cases hlt : i < j
            · obtain ⟨b, off, rfl, hbw, hc⟩ := ints_at6 HI2.out (by omega)
              obtain ⟨o, ho⟩ : ∃ o, o = out.getD i 0 := ⟨_, rfl⟩
              have hxc : wr.cell? ⟨b, off + i, none⟩ = some (.int .i64 o) := by
                rw [ho, ← hc i hlt]; exact HB2.out.bel.cell (p := ⟨b, off + i, none⟩) hbw
              have HN := Lib.hid (HG.out i o hlt ho)
              have k0 : (0 : Int) ≤ (i : Int) := by omega
              have k1 : (i : Int) < (j : Int) := by omega
              clear ho hc hbw
              go_wp2_with fail
              refine (G1.out _ _ HN.out HB2.out).mono ?_
              rintro e w6 ⟨⟨yy, rfl⟩, hb⟩
              have B7 := Lib.hid hb
              clear hb
              go_wp2
              go_roundw
              case rel => exact ⟨i + 1, by omega, by go_num, B7.out⟩
              case measure => simp [intOf]; omega
            · go_wp2_with fail
              refine (HT.out _).mono ?_
              rintro e w6 ⟨rfl, hb⟩
              have B7 := Lib.hid (HB2.out.on hb)
              clear hb HB2 HB hlt hi
              go_wp2_with fail
              refine (G2.out _ B7.out).mono ?_
              rintro e w7 ⟨x7, c7, rfl, hi, hb, _⟩
              have I7 := Lib.hid hi
              have B8 := Lib.hid hb
              clear hi hb B7
              go_wp2_with fail
              refine (G3.out _ B8.out).mono ?_
              rintro e w8 ⟨x8, c8, rfl, hi, hb, hbel⟩
              have I8 := Lib.hid hi
              have I7' := Lib.hid ((I7.out.keep hbel).mono hbel.size)
              have B9 := Lib.hid hb
              clear hi hb hbel B8 I7
              go_wp2_with fail
              refine (HX.out _ _ _ _ _ _ _ _ KX.out I7'.out I8.out).mono ?_
              rintro e w9 ⟨rfl, hb⟩
              have B10 := Lib.hid (B9.out.on hb)
              clear hb B9 I7' I8
              go_wp2_with fail
              refine (G4.out _ B10.out).mono ?_
              rintro e w10 ⟨x10, c10, rfl, hi, hb, _⟩
              have I10 := Lib.hid hi
              have B11 := Lib.hid hb
              clear hi hb B10
              go_wp2_with fail
              refine (G2.out _ B11.out).mono ?_
              rintro e w11 ⟨x11, c11, rfl, hi, hb, hbel⟩
              have I11 := Lib.hid hi
              have I10' := Lib.hid ((I10.out.keep hbel).mono hbel.size)
              have B12 := Lib.hid hb
              clear hi hb hbel B11 I10
              go_wp2_with fail
              refine (G5.out _ _ _ I11.out).mono ?_
              rintro e w12 ⟨x12, c12, rfl, hi, hbel⟩
              have I12 := Lib.hid hi
              have I10'' := Lib.hid ((I10'.out.keep hbel).mono hbel.size)
              have B13 := Lib.hid (B12.out.on hbel)
              clear hi hbel B12 I11 I10'
              go_wp2_with fail
              refine (HX.out _ _ _ _ _ _ _ _ KF.out I10''.out I12.out).mono ?_
              rintro e w13 ⟨rfl, hb⟩
              have B14 := Lib.hid (B13.out.on hb)
              clear hb B13 I10'' I12
              go_wp2_with fail
              refine (G6.out _ B14.out).mono ?_
              rintro e w14 ⟨rfl, rfl⟩
              go_wp2_with fail
              refine (G2.out _ B14.out).mono ?_
              rintro e w15 ⟨x15, c15, rfl, hi, hb, hbel⟩
              clear hi hbel
              have B15 := Lib.hid hb.bel
              clear hb B14
              go_wp2
              go_returns
              exact ⟨rfl, B15.out⟩

theorem walk (v1 : Value) (l : List Int) (v2 : Value) (out : List Int) (w : World) (h1 : Ints w w.heap.size v1 l ∧ ∀ x ∈ l, Wf x) (h2 : Ints w w.heap.size v2 out ∧ ∀ x ∈ out, Wf x) :
    Calls Try.prog 6 #[v1, v2] w fun e w' => e = .returned (.bool true) ∧ Below w.heap.size w w' := by
  obtain ⟨a1, c1, rfl, _⟩ := id h1.1
  obtain ⟨a2, c2, rfl, _⟩ := id h2.1
  by_cases hs : l.length ≤ 60 ∧ out.length ≤ 60
  · exact main l out _ _ a1 a2 c1 c2 w h1.1 h2.1 h1.2 hs.1 hs.2
  · exact early _ _ _ _ a1 a2 c1 c2 w rfl rfl (by omega)

set_option maxRecDepth 100000 in
theorem lifted (os : Os) (started : os.Started) (H : Type) (enc : TypeId × Value → H) :
    ReturnsInHanded {} Try.checked os 6 .any (Rows.bookSetsSpec.pre6 enc Try.prog Try.f6 Rows.bookSetsRow.domain false) (Rows.bookSetsSpec.post enc Try.prog Try.f6 false true false false) := by
  refine returnsInHanded_of_change (C := Try.checked) own started (by kernel_rfl) Try.func6
    (ChangeSpec.witness6 (enc := enc) (C := Try.checked) false ⟨#[], #[.slice none 0 0, .slice none 0 0], []⟩ 8 (by kernel_rfl) (by kernel_rfl) (by kernel_rfl) (by kernel_rfl)) ?_
  intro W base args ds gs before hval0 hW hcnd _
  have hval : ∀ (j : Nat) t v, Try.f6.params[j]? = some t → args[j]? = some v → Value.okWide Try.prog W .any base t v := hval0
  have hW' := hW
  obtain ⟨p, q, hA0, hV, rfl, hfz, hnd⟩ := hW
  have hA : DataW.TrodAll enc Try.prog W 0 (fun _ => true) true Try.f6.params.toList args.toList ds p := hA0
  rw [Try.params6] at hA hval
  obtain ⟨v0, vs0, d0, ds0, p0, q0, hargs, rfl, rfl, h0, r0⟩ := trodAll_cons hA
  obtain ⟨v1, vs1, d1, ds1, p1, q1, rfl, rfl, rfl, h1, r1⟩ := trodAll_cons r0
  obtain ⟨rfl, rfl, rfl⟩ := trodAll_nil r1
  obtain rfl : args = #[v0, v1] := by cases args; simp_all
  obtain ⟨rfl, rfl⟩ := trodVars_none hV
  obtain ⟨a0, len0, cap0, rfl⟩ := okWide_slice Try.underlying26 (hval 0 26 v0 rfl rfl)
  have k0 := h0
  have lt0 : ∀ x ∈ p0, x.block < W.heap.size := by obtain ⟨m, hm⟩ := k0; exact DataW.trod_lt m _ _ _ hm
  obtain ⟨l0, w0⟩ := wints_open h0
  obtain ⟨a1, len1, cap1, rfl⟩ := okWide_slice Try.underlying26 (hval 1 26 v1 rfl rfl)
  have k1 := h1
  have lt1 : ∀ x ∈ p1, x.block < W.heap.size := by obtain ⟨m, hm⟩ := k1; exact DataW.trod_lt m _ _ _ hm
  obtain ⟨l1, w1⟩ := wints_open h1
  clear hA0 hval0
  refine (walk (.slice a0 len0 cap0) l0 (.slice a1 len1 cap1) l1 W w0 w1).mono fun e W' ⟨he, bel⟩ => ?_
  subst he
  exact ⟨_, rfl, _, _, _, [], _, [], hW', trodAll_mk1 (shut_bool Try.underlying4 _), (trodAll_cons_mk (Below.trod laidOut (by kernel_rfl) (of_decide_eq_true (by kernel_rfl)) k0 bel lt0) (trodAll_cons_mk (Below.trod laidOut (by kernel_rfl) (of_decide_eq_true (by kernel_rfl)) k1 bel lt1) trodAll_mk0)), rfl, bel.frame _, fun h => by cases h⟩

theorem over : Rows.bookSetsRow.holds Try.pinned (OpenSpec.ofChange Rows.bookSetsSpec) :=
  OpenClaim.holds_of_wide 6 Try.f6 rfl rfl rfl rfl rfl rfl rfl ⟨rfl, rfl, rfl, rfl, rfl⟩ rfl rfl rfl rfl rfl (by kernel_rfl) Try.func6 (by kernel_rfl)
    (of_decide_eq_true (by kernel_rfl)) (by unfold Func.isWrapper; first | (rw [if_pos (by decide +kernel)]; kernel_rfl) | (rw [if_neg (by decide +kernel)]; exact ⟨rfl, rfl⟩))
    (fun os started H enc _ => lifted os started H enc)
end Go.Proofs.Ytkieifkbkmdgdaa.BookSets

namespace Go.Proofs.Ytkieifkbkmdgdaa
theorem bookSets_holds : Rows.BookSetsSaid := BookSets.over
#print axioms bookSets_holds
end Go.Proofs.Ytkieifkbkmdgdaa
