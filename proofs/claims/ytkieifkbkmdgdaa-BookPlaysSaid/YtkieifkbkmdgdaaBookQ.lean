/-
  THE PROGRAM's TABLE AND THE REFERENCE's, side by side: each call of either by contract, over lists. Of at most five thousand keys.
-/
import Derived.Test.YtkieifkbkmdgdaaBookL
import Derived.Test.YtkieifkbkmdgdaaBookG
import Derived.Test.YtkieifkbkmdgdaaBookPH
namespace Go.Proofs.Ytkieifkbkmdgdaa
open Go.RowKit

theorem drop_up {L : List (Int × Int)} {key : Int} {i : Nat} (hr : Rise L) (h : AtR key (keysL L) i) : (keysL L).drop i = upL key L := by
  obtain ⟨h1, h2⟩ := at_split hr h
  have h3 : ∀ x ∈ L.take i, x.1 < key := fun x hx => by rw [h1] at hx; simpa using (List.mem_filter.1 hx).2
  unfold upL keysL
  conv => rhs; rw [← List.take_append_drop i L]
  rw [List.filter_append, filter_no (fun x hx => by have := h3 x hx; simp; omega), filter_all (fun x hx => by simpa using h2 x hx)]
  simp [List.map_drop]
theorem rev_down (L : List (Int × Int)) (key : Int) : ((keysL L).reverse.filter fun x => decide (x ≤ key)) = downL key L := by
  unfold downL keysL
  rw [List.filter_reverse, List.filter_map]
  rfl
theorem rbget_any (n R : Nat) (L : List (Int × Int)) (key : Int) (w : World) (h : RB n w R L) (hr : Rise L) (hl : L.length ≤ 5000) :
    Calls Try.prog 13 #[.pointer (some ⟨R, 0, none⟩), .int .i64 key] w fun e w' => e = .returned (.tuple #[.int .i64 (gv (getL key L)), .bool (getL key L).isSome]) ∧ ∃ q, w' = w.drewN q := by
  refine (rbget_try n R L key w h hl).mono ?_
  rintro e w' ⟨⟨i, hi, hc⟩, hq⟩
  refine ⟨?_, hq⟩
  rcases hc with ⟨h1, h2, rfl⟩ | ⟨h1, rfl⟩
  · have hsp := at_yes (key := key) h1 h2
    have hg : getL key L = some ((valsL L).getD i 0) := by
      obtain ⟨y, hy⟩ : ∃ y, y = (valsL L).getD i 0 := ⟨_, rfl⟩
      rw [← hy] at hsp ⊢
      have h0 := hr
      rw [hsp] at h0 ⊢
      exact getL_eq h0
    rw [hg]; rfl
  · rw [(at_no (v := 0) hr hi h1).1]; rfl
theorem rbfrom_any (n R : Nat) (L : List (Int × Int)) (key lim : Int) (w : World) (h : RB n w R L) (hr : Rise L) (hl : L.length ≤ 5000) :
    Calls Try.prog 16 #[.pointer (some ⟨R, 0, none⟩), .int .i64 key, .int .i64 lim] w (TellsL ((upL key L).take lim.toNat) w) :=
  (rbfrom_try n R L key lim w h hl).mono fun _ _ ⟨i, hi, ht⟩ => by rwa [drop_up hr hi] at ht
theorem rbback_any (n R : Nat) (L : List (Int × Int)) (key lim : Int) (w : World) (h : RB n w R L) (hl : L.length ≤ 5000) :
    Calls Try.prog 18 #[.pointer (some ⟨R, 0, none⟩), .int .i64 key, .int .i64 lim] w (TellsL ((downL key L).take lim.toNat) w) := by
  have := rbback_try n R L key lim w h hl
  rwa [rev_down] at this

/-- Every block of a step's stands as it was. -/
def Keeps (w w' : World) : Prop := ∀ (x : Nat) (cs : Array Value), w.heap[x]? = some (.cells cs 30 (0, 0)) → w'.heap[x]? = some (.cells cs 30 (0, 0))
theorem Keeps.refl (w : World) : Keeps w w := fun _ _ h => h
theorem Keeps.trans {u v w : World} (h : Keeps u v) (k : Keeps v w) : Keeps u w := fun x cs hx => k x cs (h x cs hx)
theorem Keeps.only {S : Nat → Prop} {w w' : World} (h : Only S w w') (hs : ∀ x cs, S x → w.heap[x]? ≠ some (.cells cs 30 (0, 0))) : Keeps w w' :=
  fun x cs hx => (h.block x (lt_of_block hx) fun hS => hs x cs hS hx).trans hx
theorem Keeps.of {w w' : World} (h : Below w.heap.size w w') : Keeps w w' := .only (.of (S := fun _ => False) h) fun _ _ hx => hx.elim
theorem Keeps.drewN (w : World) (n : Nat) : Keeps w (w.drewN n) := fun _ _ h => h
theorem RS.other {n : Nat} {w : World} : ∀ x cs, RS n w x → w.heap[x]? ≠ some (.cells cs 30 (0, 0)) := by
  rintro x cs ⟨_, cs', e, he, hk⟩ h
  have := he.symm.trans h
  simp at this
  rcases hk with rfl | rfl <;> simp at this
theorem Bk.other {w : World} {B : Nat} {T : BT} (h : Bk w B T) : ∀ x cs, blks B T x → w.heap[x]? ≠ some (.cells cs 30 (0, 0)) := by
  have ht : ∀ (T : BT), Tr w T → ∀ x, T.has x → ∃ cs, w.heap[x]? = some (.cells cs 59 (0, 0)) := by
    intro T
    induction T with
    | nil => intro _ x hx; exact hx.elim
    | node b k v l r ihl ihr =>
      rintro ⟨h0, hl, hr, _⟩ x (rfl | hx | hx)
      · exact ⟨_, h0⟩
      · exact ihl hl x hx
      · exact ihr hr x hx
  rintro x cs (rfl | hx) he
  · have := (show w.heap[x]? = _ from h.1).symm.trans he
    simp at this
  · obtain ⟨cs', hc⟩ := ht T h.2.1 x hx
    have := hc.symm.trans he
    simp at this

/-- Block B is the program's table of L, block R the reference's of M; the blocks of both lie from n on. -/
def Pl (n : Nat) (w0 : World) (B R : Nat) (L M : List (Int × Int)) (w : World) : Prop := BkO n w0 B L w ∧ RB n w R M
theorem Pl.on {n : Nat} {w0 : World} {B R : Nat} {L M : List (Int × Int)} {w w' : World} (h : Pl n w0 B R L M w) (hb : Below w.heap.size w w') : Pl n w0 B R L M w' := ⟨h.1.on hb, h.2.on hb⟩
theorem Pl.drewN {n : Nat} {w0 : World} {B R : Nat} {L M : List (Int × Int)} {w : World} (h : Pl n w0 B R L M w) (k : Nat) : Pl n w0 B R L M (w.drewN k) := h.on (below_drew (Below.refl _ _) k)
theorem Pl.bel {n : Nat} {w0 : World} {B R : Nat} {L M : List (Int × Int)} {w : World} (h : Pl n w0 B R L M w) : Below n w0 w := h.1.bel
theorem BkO.size {n : Nat} {w0 : World} {B : Nat} {L : List (Int × Int)} {w : World} (h : BkO n w0 B L w) : n ≤ w.heap.size := h.choose_spec.2.2.2.1
theorem BkO.ref {n : Nat} {w0 : World} {B : Nat} {L : List (Int × Int)} {w w' : World} (h : BkO n w0 B L w) (ho : Only (RS n w) w w') : BkO n w0 B L w' := by
  obtain ⟨T, h1, h2, h3, h4, h5⟩ := h
  exact ⟨T, h1.ref ho, h2, h3, Nat.le_trans h4 ho.size, ho.below h5 (fun x hx => hx.1) h4⟩
theorem Pl.turn1 {n : Nat} {w0 : World} {B R : Nat} {L' M : List (Int × Int)} {T : BT} {w w' : World} (h1 : Bk w B T) (h3 : ∀ x, blks B T x → n ≤ x) (h4 : n ≤ w.heap.size) (h5 : Below n w0 w) (hr : RB n w R M) (hb : BkR B T L' w w') : Pl n w0 B R L' M w' ∧ Keeps w w' := by
  have hb' := hb
  obtain ⟨T', g1, g2, g3, g4⟩ := hb
  exact ⟨⟨.turn h3 h4 h5 hb', hr.only g4 fun x hx => h1.kind x hx⟩, .only g4 h1.other⟩

section
variable {n : Nat} {w0 : World} {B R : Nat} {L M : List (Int × Int)} {w : World}
theorem pl_put1 (h : Pl n w0 B R L M w) (hl : L.length ≤ 5000) (k v : Int) :
    Calls Try.prog 8 #[.pointer (some ⟨B, 0, none⟩), .int .i64 k, .int .i64 v] w fun e w' => e = .returned (.tuple #[.int .i64 (gv (getL k L)), .bool (getL k L).isSome]) ∧ Pl n w0 B R (putL k v L) M w' ∧ Keeps w w' := by
  obtain ⟨⟨T, h1, rfl, h3, h4, h5⟩, hr⟩ := h
  exact (bput_any B T k v w h1 hl).mono fun _ _ ⟨he, hb⟩ => ⟨he, Pl.turn1 h1 h3 h4 h5 hr hb⟩
theorem pl_put2 (h : Pl n w0 B R L M w) (hr : Rise M) (hl : M.length ≤ 5000) (k v : Int) :
    Calls Try.prog 9 #[.pointer (some ⟨R, 0, none⟩), .int .i64 k, .int .i64 v] w fun e w' => e = .returned (.tuple #[.int .i64 (gv (getL k M)), .bool (getL k M).isSome]) ∧ Pl n w0 B R L (putL k v M) w' ∧ Keeps w w' :=
  (rbput_any n R M k v w h.2 h.1.size hr hl).mono fun _ _ ⟨he, hb, ho⟩ => ⟨he, ⟨h.1.ref ho, hb⟩, .only ho RS.other⟩
theorem pl_del1 (h : Pl n w0 B R L M w) (hl : L.length ≤ 5000) (k : Int) :
    Calls Try.prog 10 #[.pointer (some ⟨B, 0, none⟩), .int .i64 k] w fun e w' => e = .returned (.bool (getL k L).isSome) ∧ Pl n w0 B R (delL k L) M w' ∧ Keeps w w' := by
  obtain ⟨⟨T, h1, rfl, h3, h4, h5⟩, hr⟩ := h
  exact (bdel_any B T k w h1 hl).mono fun _ _ ⟨he, hb⟩ => ⟨he, Pl.turn1 h1 h3 h4 h5 hr hb⟩
theorem pl_del2 (h : Pl n w0 B R L M w) (hr : Rise M) (hl : M.length ≤ 5000) (k : Int) :
    Calls Try.prog 11 #[.pointer (some ⟨R, 0, none⟩), .int .i64 k] w fun e w' => e = .returned (.bool (getL k M).isSome) ∧ Pl n w0 B R L (delL k M) w' ∧ Keeps w w' :=
  (rbdel_any n R M k w h.2 h.1.size hr hl).mono fun _ _ ⟨he, hb, ho⟩ => ⟨he, ⟨h.1.ref ho, hb⟩, .only ho RS.other⟩
theorem pl_get1 (h : Pl n w0 B R L M w) (k : Int) :
    Calls Try.prog 12 #[.pointer (some ⟨B, 0, none⟩), .int .i64 k] w fun e w' => e = .returned (.tuple #[.int .i64 (gv (getL k L)), .bool (getL k L).isSome]) ∧ Pl n w0 B R L M w' ∧ Keeps w w' :=
  (get_o h.1 k).mono fun _ _ ⟨he, _, hb⟩ => ⟨he, h.on hb, .of hb⟩
theorem pl_get2 (h : Pl n w0 B R L M w) (hr : Rise M) (hl : M.length ≤ 5000) (k : Int) :
    Calls Try.prog 13 #[.pointer (some ⟨R, 0, none⟩), .int .i64 k] w fun e w' => e = .returned (.tuple #[.int .i64 (gv (getL k M)), .bool (getL k M).isSome]) ∧ Pl n w0 B R L M w' ∧ Keeps w w' := by
  refine (rbget_any n R M k w h.2 hr hl).mono ?_
  rintro e w' ⟨he, q, rfl⟩
  exact ⟨he, h.drewN q, .drewN _ _⟩
/-- A list is told, and both tables stand. -/
def TellsP (X : List Int) (n : Nat) (w0 : World) (B R : Nat) (L M : List (Int × Int)) (w : World) (e : Ending) (w' : World) : Prop :=
  ∃ ao cap, e = .returned (.slice ao X.length cap) ∧ Ints w' w'.heap.size (.slice ao X.length cap) X ∧ Pl n w0 B R L M w' ∧ Below w.heap.size w w'
theorem TellsL.p {X : List Int} {e : Ending} {w' : World} (h : Pl n w0 B R L M w) (ht : TellsL X w e w') : TellsP X n w0 B R L M w e w' := by
  obtain ⟨ao, cap, he, hi, hb⟩ := ht
  exact ⟨ao, cap, he, hi, h.on hb, hb⟩
theorem pl_from1 (h : Pl n w0 B R L M w) (hl : L.length ≤ 5000) (k lim : Int) :
    Calls Try.prog 15 #[.pointer (some ⟨B, 0, none⟩), .int .i64 k, .int .i64 lim] w (TellsP ((upL k L).take lim.toNat) n w0 B R L M w) :=
  (from_o h.1 hl k lim).mono fun _ _ ⟨ao, cap, he, hi, _, hb⟩ => ⟨ao, cap, he, hi, h.on hb, hb⟩
theorem pl_from2 (h : Pl n w0 B R L M w) (hr : Rise M) (hl : M.length ≤ 5000) (k lim : Int) :
    Calls Try.prog 16 #[.pointer (some ⟨R, 0, none⟩), .int .i64 k, .int .i64 lim] w (TellsP ((upL k M).take lim.toNat) n w0 B R L M w) :=
  (rbfrom_any n R M k lim w h.2 hr hl).mono fun _ _ ht => ht.p h
theorem pl_back1 (h : Pl n w0 B R L M w) (hl : L.length ≤ 5000) (k lim : Int) :
    Calls Try.prog 17 #[.pointer (some ⟨B, 0, none⟩), .int .i64 k, .int .i64 lim] w (TellsP ((downL k L).take lim.toNat) n w0 B R L M w) :=
  (back_o h.1 hl k lim).mono fun _ _ ⟨ao, cap, he, hi, _, hb⟩ => ⟨ao, cap, he, hi, h.on hb, hb⟩
theorem pl_back2 (h : Pl n w0 B R L M w) (hl : M.length ≤ 5000) (k lim : Int) :
    Calls Try.prog 18 #[.pointer (some ⟨R, 0, none⟩), .int .i64 k, .int .i64 lim] w (TellsP ((downL k M).take lim.toNat) n w0 B R L M w) :=
  (rbback_any n R M k lim w h.2 hl).mono fun _ _ ht => ht.p h
theorem pl_keys (h : Pl n w0 B R L M w) (hl : L.length ≤ 5000) (hlow : ∀ x ∈ L, -9223372036854775808 ≤ x.1) :
    Calls Try.prog 21 #[.pointer (some ⟨B, 0, none⟩)] w (TellsP (keysL L) n w0 B R L M w) :=
  (keys_o h.1 hl hlow).mono fun _ _ ⟨ao, cap, he, hi, _, hb⟩ => ⟨ao, cap, he, hi, h.on hb, hb⟩
theorem pl_least (h : Pl n w0 B R L M w) (hl : L.length ≤ 5000) (hlow : ∀ x ∈ L, -9223372036854775808 ≤ x.1) :
    Calls Try.prog 19 #[.pointer (some ⟨B, 0, none⟩)] w fun e w' => e = .returned (.tuple #[.int .i64 ((keysL L).headD 0), .bool (!(keysL L).isEmpty)]) ∧ Pl n w0 B R L M w' ∧ Below w.heap.size w w' :=
  (least_o h.1 hl hlow).mono fun _ _ ⟨he, _, hb⟩ => ⟨he, h.on hb, hb⟩
end
theorem Pl.low {n : Nat} {w0 : World} {B R : Nat} {L M : List (Int × Int)} {w : World} (h : Pl n w0 B R L M w) : Rise L := h.1.rise
end Go.Proofs.Ytkieifkbkmdgdaa
