/-
  THE PROGRAM's Ask AND Do, of any versions (at most a million), any request, any quota.
-/
import Derived.Test.YtenjjgghoacboaaChartH2
import Derived.Test.YtenjjgghoacboaaChartR2
namespace Go.Proofs.Ytenjjgghoacboaa
open Go.RowKit

theorem RepAt.keep {w w' : World} {b B : Nat} {c n : Int} {d : ByteArray} {v : Value} (h : RepAt w b c n d v) (hb : Below B w w') (hB : b < B) : RepAt w' b c n d v := (hb.block b hB).trans h
theorem RepAt.new (w : World) (c n : Int) (d : ByteArray) (v : Value) : RepAt (w.alloc (.cells #[.int .i64 c, .int .i64 n, .string d, v] 48)) w.heap.size c n d v := heap_alloc_new w _
theorem RepAt.new1 (w : World) (o : Obj) (c n : Int) (d : ByteArray) (v : Value) : RepAt ((w.alloc o).alloc (.cells #[.int .i64 c, .int .i64 n, .string d, v] 48)) (w.heap.size + 1) c n d v := by
  have := RepAt.new (w.alloc o) c n d v
  rwa [World.size_alloc] at this

theorem ints_nil (w : World) (B : Nat) : Ints w B (.slice none ([] : List Int).length 0) [] := Ints.none w B

theorem read_tells (v : Value) (L : List VerV) (B : Nat) (i c r : Int) (d : ByteArray) (l : List Int) (HR : Hid (rdV L i = ⟨c, r, d, l⟩)) (w : World) (hV : Vers w B v L) (hB : B ≤ w.heap.size) (hl : L.length ≤ 1000000) :
    Calls Try.prog 122 #[v, .int .i64 i] w (Tells l c r d w) := by
  have h := rdV_list L i
  rw [HR.out] at h
  simp only at h
  subst h
  exact (read_r v L B i c r d HR w hV hB hl).mono fun e w' ⟨he, hb⟩ => ⟨none, 0, he, ints_nil _ _, fun a h => (by cases h), hb⟩

/-- Behind the store of a reply into the result's block. -/
theorem tells_end {w W : World} {R : Nat} {l : List Int} {c r : Int} {d : ByteArray} {ao : Option Addr} {cap : Nat} (hI : Ints W W.heap.size (.slice ao l.length cap) l) (hb : Below w.heap.size w W) (hR : w.heap.size ≤ R) (hne : l ≠ [] → ∀ a, ao = some a → a.block ≠ R) :
    Ints (stored W R c r d (.slice ao l.length cap)) (stored W R c r d (.slice ao l.length cap)).heap.size (.slice ao l.length cap) l ∧ Below w.heap.size w (stored W R c r d (.slice ao l.length cap)) := by
  refine ⟨?_, stored_below hb hR _ _ _ _⟩
  obtain ⟨ao', cap', he, h1, h2, h3, h4⟩ := hI
  simp only [Value.slice.injEq] at he
  obtain ⟨rfl, _, rfl⟩ := he
  refine ⟨ao, cap, rfl, h1, h2, h3, fun hl => ?_⟩
  obtain ⟨b, off, rfl, hbB, hc⟩ := h4 hl
  have hbR := hne hl _ rfl
  have hs : (stored W R c r d (.slice (some ⟨b, off, none⟩) l.length cap)).heap.size = W.heap.size := by simp [stored]
  refine ⟨b, off, rfl, by rw [hs]; exact hbB, fun j hj => ?_⟩
  rw [← hc j hj]
  unfold stored
  have hq : ∀ (w : World) (o : Nat) (u : Value), (w.setCell ⟨R, o, none⟩ u).cell? ⟨b, off + j, none⟩ = w.cell? ⟨b, off + j, none⟩ := fun w o u => World.cell?_of_block (Below.heap_setCell _ _ _ _ hbR)
  rw [hq, hq, hq, hq]

set_option maxRecDepth 100000 in
set_option maxHeartbeats 1000000 in
theorem ask_two (ao : Option Addr) (n cap : Nat) (cl sq kd id mt i : Int) (dt : ByteArray) (c r : Int) (d : ByteArray) (w : World) (hk : (kd = 4 ∧ i = n) ∨ (kd = 5 ∧ i = mt))
    (HC : Hid (∀ u, Below w.heap.size w u → Calls Try.prog 122 #[.slice ao n cap, .int .i64 i] u fun e w' => e = .returned (.agg #[.int .i64 c, .int .i64 r, .string d, .slice none 0 0]) ∧ Below u.heap.size u w')) :
    Calls Try.prog 105 #[.slice ao n cap, .agg #[.int .i64 cl, .int .i64 sq, .int .i64 kd, .int .i64 id, .int .i64 mt, .string dt]] w fun e w' =>
      e = .returned (.agg #[.int .i64 c, .int .i64 r, .string d, .slice none 0 0]) ∧ Below w.heap.size w w' := by
  rcases hk with ⟨rfl, rfl⟩ | ⟨rfl, rfl⟩
  all_goals
    go_enter Try.func105, Try.ntmps105
    go_wp2_with fail
    refine (HC.out _ (by go_grown)).mono ?_
    rintro e w1 ⟨rfl, B1⟩
    have C1 : Hid (Below w.heap.size w w1) := (((Below.refl _ w).alloc (Nat.le_refl _) _).alloc (by simp) _).trans (B1.mono (by simp; omega))
    have R1 : RepAt w1 (w.heap.size + 1) 0 0 ⟨#[]⟩ (.slice none 0 0) := RepAt.keep (RepAt.new1 w _ 0 0 ⟨#[]⟩ (.slice none 0 0)) B1 (by simp)
    obtain ⟨⟨d0, d1, d2, d3⟩, ⟨z0, z1, z2, z3⟩⟩ := R1.cells
    have HE := Lib.hid (rep_stored (c' := c) (n' := r) (d' := d) R1 (.slice none 0 0)).cells.1
    clear B1 R1
    go_wp2
    obtain ⟨e0, e1, e2, e3⟩ := HE.out
    unfold stored at e0 e1 e2 e3
    exact bodyPost_ret (v := .agg #[.int .i64 c, .int .i64 r, .string d, .slice none 0 0]) (by simp [results, Try.results105, go_sem, e0, e1, e2, e3]) rfl ⟨rfl, stored_below C1.out (Nat.le_succ _) _ _ _ _⟩

set_option maxRecDepth 100000 in
set_option maxHeartbeats 1000000 in
theorem ask_hist (v : Value) (cl sq id mt : Int) (dt : ByteArray) (c r : Int) (d : ByteArray) (l : List Int) (w : World)
    (HC : Hid (∀ u, Below w.heap.size w u → Calls Try.prog 123 #[v] u (Tells l c r d u))) :
    Calls Try.prog 105 #[v, .agg #[.int .i64 cl, .int .i64 sq, .int .i64 6, .int .i64 id, .int .i64 mt, .string dt]] w (Tells l c r d w) := by
  go_enter Try.func105, Try.ntmps105
  go_wp2_with fail
  refine (HC.out _ (by go_grown)).mono ?_
  rintro e w1 ⟨ao, cap, rfl, I1, L1, B1⟩
  have C1 : Hid (Below w.heap.size w w1) := (((Below.refl _ w).alloc (Nat.le_refl _) _).alloc (by simp) _).trans (B1.mono (by simp; omega))
  have R1 : RepAt w1 (w.heap.size + 1) 0 0 ⟨#[]⟩ (.slice none 0 0) := RepAt.keep (RepAt.new1 w _ 0 0 ⟨#[]⟩ (.slice none 0 0)) B1 (by simp)
  have HF := Lib.hid (tells_end (c := c) (r := r) (d := d) I1 C1.out (Nat.le_succ w.heap.size) (fun _ a ha => by have := L1 a ha; simp at this; omega))
  have HL := Lib.hid L1
  obtain ⟨⟨d0, d1, d2, d3⟩, ⟨z0, z1, z2, z3⟩⟩ := R1.cells
  have HE := Lib.hid (rep_stored (c' := c) (n' := r) (d' := d) R1 (.slice ao l.length cap)).cells.1
  clear B1 R1 I1 L1
  generalize hn : l.length = n
  rw [hn] at HE
  have HN := Lib.hid hn
  clear hn
  go_wp2
  obtain ⟨e0, e1, e2, e3⟩ := HE.out
  unfold stored at e0 e1 e2 e3
  refine bodyPost_ret (v := .agg #[.int .i64 c, .int .i64 r, .string d, .slice ao n cap]) (by simp [results, Try.results105, go_sem, e0, e1, e2, e3]) rfl ⟨ao, cap, by rw [HN.out], ?_⟩
  have hf := HF.out
  rw [← HN.out]
  exact ⟨hf.1, fun a ha => by have := HL.out a ha; simp at this; omega, hf.2⟩

set_option maxRecDepth 100000 in
set_option maxHeartbeats 1000000 in
theorem ask_other (v : Value) (cl sq kd id mt : Int) (dt : ByteArray) (w : World) (h4 : kd ≠ 4) (h5 : kd ≠ 5) (h6 : kd ≠ 6) :
    Calls Try.prog 105 #[v, .agg #[.int .i64 cl, .int .i64 sq, .int .i64 kd, .int .i64 id, .int .i64 mt, .string dt]] w (Tells [] 0 0 ⟨#[]⟩ w) := by
  have b4 : (kd == 4) = false := beq_eq_false_iff_ne.2 h4
  have b5 : (kd == 5) = false := beq_eq_false_iff_ne.2 h5
  have b6 : (kd == 6) = false := beq_eq_false_iff_ne.2 h6
  clear h4 h5 h6
  go_enter Try.func105, Try.ntmps105
  go_wp2
  go_returns
  exact ⟨none, 0, rfl, Ints.none _ _, fun a h => (by cases h), by go_grown⟩

/-- What the program's Ask tells. -/
theorem ask_r (v : Value) (L : List VerV) (B : Nat) (cl sq kd id mt : Int) (dt : ByteArray) (c r : Int) (d : ByteArray) (l : List Int) (HR : Hid (askV L kd mt = ⟨c, r, d, l⟩)) (w : World) (hV : Vers w B v L) (hB : B ≤ w.heap.size) (hl : L.length ≤ 1000000) :
    Calls Try.prog 105 #[v, .agg #[.int .i64 cl, .int .i64 sq, .int .i64 kd, .int .i64 id, .int .i64 mt, .string dt]] w (Tells l c r d w) := by
  have h := HR.out
  unfold askV at h
  have two : ∀ i, rdV L i = ⟨c, r, d, l⟩ → ((kd = 4 ∧ i = L.length) ∨ (kd = 5 ∧ i = mt)) → Calls Try.prog 105 #[v, .agg #[.int .i64 cl, .int .i64 sq, .int .i64 kd, .int .i64 id, .int .i64 mt, .string dt]] w (Tells l c r d w) := by
    intro i hi hk
    have h0 := rdV_list L i
    rw [hi] at h0
    simp only at h0
    subst h0
    have hV' := hV
    obtain ⟨ao, cap, rfl⟩ := hV.shape
    refine (ask_two ao _ cap cl sq kd id mt i dt c r d w hk (show ∀ u, _ from fun u hu => read_r _ L B i c r d hi u (hV'.keep (hu.mono hB)) (Nat.le_trans hB hu.size) hl)).mono ?_
    rintro e w' ⟨rfl, hb⟩
    exact ⟨none, 0, rfl, Ints.none _ _, fun a h => (by cases h), hb⟩
  by_cases h4 : kd = 4
  · rw [if_pos h4] at h
    exact two _ h (.inl ⟨h4, rfl⟩)
  rw [if_neg h4] at h
  by_cases h5 : kd = 5
  · rw [if_pos h5] at h
    exact two _ h (.inr ⟨h5, rfl⟩)
  rw [if_neg h5] at h
  by_cases h6 : kd = 6
  · rw [if_pos h6] at h
    subst h6
    exact ask_hist v cl sq id mt dt c r d l w (show ∀ u, _ from fun u hu => history_r v L B c r d l h u (hV.keep (hu.mono hB)) (Nat.le_trans hB hu.size) hl)
  rw [if_neg h6] at h
  obtain ⟨rfl, rfl, rfl, rfl⟩ : 0 = c ∧ 0 = r ∧ (⟨#[]⟩ : ByteArray) = d ∧ [] = l := by simpa using h
  exact ask_other v cl sq kd id mt dt w h4 h5 h6
end Go.Proofs.Ytenjjgghoacboaa
