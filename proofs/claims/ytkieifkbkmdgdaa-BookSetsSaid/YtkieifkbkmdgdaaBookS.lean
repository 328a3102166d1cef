/-
  TWO BOOKS APART: each call by contract, over their lists; ints picked out; lists that rise and have the same. Of at most five thousand keys.
-/
import Derived.Test.YtkieifkbkmdgdaaBookL
namespace Go.Proofs.Ytkieifkbkmdgdaa
open Go.RowKit

/-- Blocks A and B are books of the lists L and M, apart from one another; their blocks lie from n on; what was there below n in w0 is as it was. -/
def Two (n : Nat) (w0 : World) (A B : Nat) (L M : List (Int × Int)) (w : World) : Prop :=
  ∃ T S : BT, Bk w A T ∧ Bk w B S ∧ T.list = L ∧ S.list = M ∧ (∀ x, blks A T x → n ≤ x) ∧ (∀ x, blks B S x → n ≤ x) ∧ (∀ x, blks A T x → ¬ blks B S x) ∧ n ≤ w.heap.size ∧ Below n w0 w
theorem Two.symm {n : Nat} {w0 : World} {A B : Nat} {L M : List (Int × Int)} {w : World} (h : Two n w0 A B L M w) : Two n w0 B A M L w := by
  obtain ⟨T, S, h1, h2, h3, h4, h5, h6, h7, h8, h9⟩ := h
  exact ⟨S, T, h2, h1, h4, h3, h6, h5, fun x hx hy => h7 x hy hx, h8, h9⟩
theorem Two.bel {n : Nat} {w0 : World} {A B : Nat} {L M : List (Int × Int)} {w : World} (h : Two n w0 A B L M w) : Below n w0 w := by
  obtain ⟨T, S, _, _, _, _, _, _, _, _, h9⟩ := h
  exact h9
theorem Two.rise {n : Nat} {w0 : World} {A B : Nat} {L M : List (Int × Int)} {w : World} (h : Two n w0 A B L M w) : Rise L := by
  obtain ⟨T, S, h1, _, rfl, _⟩ := h
  exact h1.2.2.1
theorem Two.on {n : Nat} {w0 : World} {A B : Nat} {L M : List (Int × Int)} {w w' : World} (h : Two n w0 A B L M w) (hb : Below w.heap.size w w') : Two n w0 A B L M w' := by
  obtain ⟨T, S, h1, h2, h3, h4, h5, h6, h7, h8, h9⟩ := h
  exact ⟨T, S, h1.quiet (Only.of hb), h2.quiet (Only.of hb), h3, h4, h5, h6, h7, Nat.le_trans h8 hb.size, h9.trans (hb.mono h8)⟩
theorem Two.drewN {n : Nat} {w0 : World} {A B : Nat} {L M : List (Int × Int)} {w : World} (h : Two n w0 A B L M w) (k : Nat) : Two n w0 A B L M (w.drewN k) := h.on (below_drew (Below.refl _ _) k)
theorem Two.turn {n : Nat} {w0 : World} {A B : Nat} {L' M : List (Int × Int)} {T S : BT} {w w' : World} (h1 : Bk w A T) (h2 : Bk w B S) (h4 : S.list = M) (h5 : ∀ x, blks A T x → n ≤ x) (h6 : ∀ x, blks B S x → n ≤ x) (h7 : ∀ x, blks A T x → ¬ blks B S x) (h8 : n ≤ w.heap.size) (h9 : Below n w0 w)
    (h : BkR A T L' w w') : Two n w0 A B L' M w' := by
  obtain ⟨T', g1, g2, g3, g4⟩ := h
  refine ⟨T', S, g1, h2.keep g4 (fun x hb ha => h7 x ha hb), g2, h4, fun x hx => ?_, h6, fun x hx hb => ?_, Nat.le_trans h8 g4.size, g4.below h9 h5 h8⟩
  · rcases hx with rfl | hx
    · exact h5 _ (.inl rfl)
    · rcases g3 x hx with hx | hx
      · exact h5 x (.inr hx)
      · omega
  · have hlt := h2.lt x hb
    rcases hx with rfl | hx
    · exact h7 _ (.inl rfl) hb
    · rcases g3 x hx with hx | hx
      · exact h7 x (.inr hx) hb
      · omega

theorem two_new (w0 w : World) (n : Nat) {A : Nat} (h : BkO n w0 A [] w) : Calls Try.prog 7 #[] w fun e w' => e = .returned (.pointer (some ⟨w.heap.size, 0, none⟩)) ∧ Two n w0 A w.heap.size [] [] w' := by
  obtain ⟨T, h1, h2, h3, h4, h5⟩ := h
  refine (bnew_any w).mono fun _ _ ⟨he, hk, hw⟩ => ⟨he, T, .nil, h1.quiet (Only.of hw), hk, h2, rfl, h3, (by rintro x (rfl | hx); exact h4; exact hx.elim), fun x hx hb => ?_, Nat.le_trans h4 hw.size, h5.trans (hw.mono h4)⟩
  have := h1.lt x hx
  rcases hb with rfl | hb
  · omega
  · exact hb.elim
theorem two_put {n : Nat} {w0 : World} {A B : Nat} {L M : List (Int × Int)} {w : World} (h : Two n w0 A B L M w) (hl : L.length ≤ 5000) (k v : Int) :
    Calls Try.prog 8 #[.pointer (some ⟨A, 0, none⟩), .int .i64 k, .int .i64 v] w fun e w' => e = .returned (.tuple #[.int .i64 (gv (getL k L)), .bool (getL k L).isSome]) ∧ Two n w0 A B (putL k v L) M w' := by
  obtain ⟨T, S, h1, h2, rfl, h4, h5, h6, h7, h8, h9⟩ := h
  exact (bput_any A T k v w h1 hl).mono fun e w' ⟨he, hr⟩ => ⟨he, Two.turn h1 h2 h4 h5 h6 h7 h8 h9 hr⟩
theorem two_del {n : Nat} {w0 : World} {A B : Nat} {L M : List (Int × Int)} {w : World} (h : Two n w0 A B L M w) (hl : L.length ≤ 5000) (k : Int) :
    Calls Try.prog 10 #[.pointer (some ⟨A, 0, none⟩), .int .i64 k] w fun e w' => e = .returned (.bool (getL k L).isSome) ∧ Two n w0 A B (delL k L) M w' := by
  obtain ⟨T, S, h1, h2, rfl, h4, h5, h6, h7, h8, h9⟩ := h
  exact (bdel_any A T k w h1 hl).mono fun e w' ⟨he, hr⟩ => ⟨he, Two.turn h1 h2 h4 h5 h6 h7 h8 h9 hr⟩
theorem two_get {n : Nat} {w0 : World} {A B : Nat} {L M : List (Int × Int)} {w : World} (h : Two n w0 A B L M w) (k : Int) :
    Calls Try.prog 12 #[.pointer (some ⟨A, 0, none⟩), .int .i64 k] w fun e w' => e = .returned (.tuple #[.int .i64 (gv (getL k L)), .bool (getL k L).isSome]) ∧ Two n w0 A B L M w' := by
  have h' := h
  obtain ⟨T, S, h1, h2, rfl, _⟩ := h
  refine (bget_any A T k w h1).mono fun e w' ⟨he, m, hw⟩ => ⟨he, ?_⟩
  rw [hw]; exact h'.drewN m
theorem two_len {n : Nat} {w0 : World} {A B : Nat} {L M : List (Int × Int)} {w : World} (h : Two n w0 A B L M w) :
    Calls Try.prog 20 #[.pointer (some ⟨A, 0, none⟩)] w fun e w' => e = .returned (.int .i64 L.length) ∧ w = w' := by
  obtain ⟨T, S, h1, h2, rfl, _⟩ := h
  exact blen_any A T w h1
/-- What is told of two books: ints. -/
def TellsT (X : List Int) (n : Nat) (w0 : World) (A B : Nat) (L M : List (Int × Int)) (w : World) (e : Ending) (w' : World) : Prop :=
  ∃ ao cap, e = .returned (.slice ao X.length cap) ∧ Ints w' w'.heap.size (.slice ao X.length cap) X ∧ Two n w0 A B L M w' ∧ Below w.heap.size w w'
theorem two_keys {n : Nat} {w0 : World} {A B : Nat} {L M : List (Int × Int)} {w : World} (h : Two n w0 A B L M w) (hl : L.length ≤ 5000) (hlow : ∀ x ∈ L, -9223372036854775808 ≤ x.1) :
    Calls Try.prog 21 #[.pointer (some ⟨A, 0, none⟩)] w (TellsT (keysL L) n w0 A B L M w) := by
  have h' := h
  obtain ⟨T, S, h1, h2, rfl, _⟩ := h
  exact (bkeys_any A T w h1 hl hlow).mono fun e w' ⟨ao, cap, he, hi, hb⟩ => ⟨ao, cap, he, hi, h'.on hb, hb⟩
theorem two_from {n : Nat} {w0 : World} {A B : Nat} {L M : List (Int × Int)} {w : World} (h : Two n w0 A B L M w) (hl : L.length ≤ 5000) (k lim : Int) :
    Calls Try.prog 15 #[.pointer (some ⟨A, 0, none⟩), .int .i64 k, .int .i64 lim] w (TellsT ((upL k L).take lim.toNat) n w0 A B L M w) := by
  have h' := h
  obtain ⟨T, S, h1, h2, rfl, _⟩ := h
  exact (bfrom_any A T k lim w h1 hl).mono fun e w' ⟨ao, cap, he, hi, hb⟩ => ⟨ao, cap, he, hi, h'.on hb, hb⟩

theorem upL_keys (k : Int) (L : List (Int × Int)) : upL k L = (keysL L).filter fun x => decide (k ≤ x) := by
  unfold upL keysL
  rw [List.filter_map]
  rfl

/-- Lists that rise and have the same pairs are one list. -/
theorem rise_ext : ∀ {L M : List (Int × Int)}, Rise L → Rise M → (∀ x, x ∈ L ↔ x ∈ M) → L = M
  | [], [], _, _, _ => rfl
  | [], y :: M, _, _, h => absurd ((h y).2 (by simp)) (by simp)
  | x :: L, [], _, _, h => absurd ((h x).1 (by simp)) (by simp)
  | x :: L, y :: M, hL, hM, h => by
    obtain ⟨hL', hx⟩ := hL.head
    obtain ⟨hM', hy⟩ := hM.head
    have e : x = y := by
      rcases List.mem_cons.1 ((h x).1 (by simp)) with e | hm
      · exact e
      · rcases List.mem_cons.1 ((h y).2 (by simp)) with e | hn
        · exact e.symm
        · have := hy x hm; have := hx y hn; omega
    subst e
    congr 1
    refine rise_ext hL' hM' fun z => ⟨fun hz => ?_, fun hz => ?_⟩
    · rcases List.mem_cons.1 ((h z).1 (List.mem_cons_of_mem _ hz)) with e | hm
      · subst e; have := hx z hz; omega
      · exact hm
    · rcases List.mem_cons.1 ((h z).2 (List.mem_cons_of_mem _ hz)) with e | hm
      · subst e; have := hy z hz; omega
      · exact hm
theorem putL_iff {L : List (Int × Int)} {k v : Int} {x : Int × Int} : x ∈ putL k v L ↔ x = (k, v) ∨ (x ∈ L ∧ x.1 ≠ k) := by
  unfold putL
  simp only [List.mem_append, List.mem_cons, List.mem_filter, decide_eq_true_eq]
  constructor
  · rintro (⟨h1, h2⟩ | h | ⟨h1, h2⟩)
    · exact .inr ⟨h1, by omega⟩
    · exact .inl h
    · exact .inr ⟨h1, by omega⟩
  · rintro (h | ⟨h1, h2⟩)
    · exact .inr (.inl h)
    · rcases Int.lt_or_gt_of_ne h2 with h | h
      · exact .inl ⟨h1, h⟩
      · exact .inr (.inr ⟨h1, h⟩)

set_option maxHeartbeats 2000000 in
theorem firsts_any (v : Value) (l : List Int) (w : World) (hI : Ints w w.heap.size v l) (hn : l.length ≤ 1000) :
    Calls Try.prog 23 #[v] w (TellsL (l.filter fun x => decide (-4611686018427387904 ≤ x)) w) := by
  obtain ⟨i0, hi, hz0, hz1, hz2⟩ := info_parts info_int6
  obtain ⟨ao, cap, rfl, _⟩ := id hI
  obtain ⟨n, hnn⟩ : ∃ n, n = l.length := ⟨_, rfl⟩
  rw [← hnn] at hI hn ⊢
  have HI' := Lib.hid hI
  have HL := Lib.hid hnn
  clear hI hnn
  go_enter Try.func23, Try.ntmps23
  go_wp2_with fail
  go_loopw [3, 4] (fun vo vi wr => ∃ (k f : Nat) (a : Option Addr) (c : Nat), k ≤ n ∧ vi = .int .i64 k ∧ vo = .slice a f c ∧ f ≤ k ∧ Hid (f = ((l.take k).filter fun x => decide (-4611686018427387904 ≤ x)).length) ∧ wr.ownsRow w.heap.size 3 1 (.slice a f c) f (intCells ((l.take k).filter fun x => decide (-4611686018427387904 ≤ x))) ∧ Below w.heap.size w wr) (fun _ vi _ => 2000 - (intOf vi).toNat)
  case atStart => exact ⟨0, 0, none, 0, by omega, rfl, rfl, Nat.le_refl _, (show _ = _ by simp), by simpa [intCells] using World.ownsRow_nil _ _ _ _, Below.refl _ _⟩
  case round =>
    obtain ⟨k, f, a, c, hk, rfl, rfl, hf, HN, hrow, hbel⟩ := hrel
    have HB := Lib.hid hbel
    have HR := Lib.hid hrow
    clear hrow
    by_cases hlt : k < n
    · obtain ⟨b, off, rfl, hbw, hc⟩ := ints_at6 HI'.out (by omega)
      obtain ⟨x, hx⟩ : ∃ x, x = l.getD k 0 := ⟨_, rfl⟩
      have cx : wr.cell? ⟨b, off + k, none⟩ = some (.int .i64 x) := by rw [hx, ← hc k hlt]; exact hbel.cell (p := ⟨b, off + k, none⟩) hbw
      have HT : Hid (l.take (k + 1) = l.take k ++ [x]) := by show _ = _; rw [hx]; exact take_snoc l k (by rw [← HL.out]; exact hlt)
      have k0 : (0 : Int) ≤ (k : Int) := by omega
      have k1 : (k : Int) < (n : Int) := by omega
      clear hx hc hbw hbel
      by_cases hp : -4611686018427387904 ≤ x
      · have HE : Hid (((l.take (k + 1)).filter fun x => decide (-4611686018427387904 ≤ x)) = ((l.take k).filter fun x => decide (-4611686018427387904 ≤ x)) ++ [x]) := by
          show _ = _
          rw [HT.out, List.filter_append, List.filter_cons_of_pos (by simpa using hp)]
          rfl
        go_wp2_with (at_builtin; refine wpList_append_own_src rfl (.tmp 16) (.tmp 21) 26 26 rfl w.heap.size 3 i0 (.int .i64 0) 1 8 Try.underlying26 hi hz0 hz1 hz2 rfl _ _ _ rfl (HR.out.alloc _) _ 1 [Value.int .i64 x] rfl (src_one_int wr _ _ rfl) ?c3 ?c4 ?c5 ?_)
        case c3 => unfold maxLen; omega
        case c4 => omega
        case c5 => have := HB.out.size; simp; omega
        intro v' w1 hown' hgrow
        obtain ⟨a', c', rfl⟩ := own_shape hown'
        have HO := Lib.hid hown'
        have HB1 : Hid (Below w.heap.size w w1) := (HB.out.alloc HB.out.size _).grown hgrow (by have := HB.out.size; simp; omega) (fun j hj => (HR.out.lt j hj).1)
        clear hown' hgrow
        go_wp2
        go_roundw
        case rel =>
          refine ⟨k + 1, f + 1, a', c', by omega, by go_num, rfl, by omega, (show _ = _ by rw [HE.out, List.length_append, HN.out]; rfl), ?_, HB1.out⟩
          have h := HO.out
          rw [HE.out]
          simpa [intCells] using h
        case measure => simp [intOf]; omega
      · have HE : Hid (((l.take (k + 1)).filter fun x => decide (-4611686018427387904 ≤ x)) = ((l.take k).filter fun x => decide (-4611686018427387904 ≤ x))) := by
          show _ = _
          rw [HT.out, List.filter_append, List.filter_cons_of_neg (by simpa using hp)]
          simp
        have hp' : x < -4611686018427387904 := by omega
        clear hp
        go_wp2
        go_roundw
        case rel => exact ⟨k + 1, f, a, c, by omega, by go_num, rfl, by omega, (show _ = _ by rw [HE.out]; exact HN.out), by rw [HE.out]; exact HR.out, HB.out⟩
        case measure => simp [intOf]; omega
    · have hkn : k = n := by omega
      have HE : Hid (((l.take k).filter fun x => decide (-4611686018427387904 ≤ x)) = l.filter fun x => decide (-4611686018427387904 ≤ x)) := by
        show _ = _
        rw [List.take_of_length_le (by rw [← HL.out]; omega)]
      clear hbel hkn
      go_wp2
      go_returns
      have hfl : f = (l.filter fun x => decide (-4611686018427387904 ≤ x)).length := by rw [← HE.out]; exact HN.out
      have h := HR.out
      rw [HE.out] at h
      have hI2 := ints_own h (Nat.le_refl _)
      refine ⟨a, c, by rw [← hfl]; rfl, ?_, HB.out⟩
      rw [← hfl]
      exact hI2
end Go.Proofs.Ytkieifkbkmdgdaa
