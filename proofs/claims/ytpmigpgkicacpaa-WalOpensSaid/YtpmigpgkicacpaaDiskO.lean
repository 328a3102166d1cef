/-
  A DISK WHOSE BLOCKS LIE ABOVE n, and two of them apart: each call by contract, over their bytes; told. No condition but that lengths stay below 2^47.
-/
import Derived.Test.YtpmigpgkicacpaaDiskW
import Derived.Lib.SlBytesConst
namespace Go.Proofs.Ytpmigpgkicacpaa
open Go.RowKit

/-- Block g is a disk of the bytes xs, the first k synced; its blocks lie from n on; what was there below n in w0 is as it was. -/
def DkO (n : Nat) (w0 : World) (g : Nat) (xs : List UInt8) (k : Nat) (w : World) : Prop := ∃ v, Dsk w n g v xs k ∧ n ≤ w.heap.size ∧ Below n w0 w
/-- Two disks apart from one another. -/
def DkT (n : Nat) (w0 : World) (g c : Nat) (xs : List UInt8) (k : Nat) (ys : List UInt8) (j : Nat) (w : World) : Prop :=
  ∃ v u, Dsk w n g v xs k ∧ Dsk w n c u ys j ∧ (∀ x, dblks g v x → ¬ dblks c u x) ∧ n ≤ w.heap.size ∧ Below n w0 w

section
variable {n : Nat} {w0 w w' : World} {g c : Nat} {xs ys : List UInt8} {k j : Nat}
theorem DkO.bel (h : DkO n w0 g xs k w) : Below n w0 w := h.choose_spec.2.2
theorem DkO.size (h : DkO n w0 g xs k w) : n ≤ w.heap.size := h.choose_spec.2.1
theorem DkO.on (h : DkO n w0 g xs k w) (hb : Below w.heap.size w w') : DkO n w0 g xs k w' := by
  obtain ⟨v, h1, h2, h3⟩ := h
  exact ⟨v, h1.on hb, Nat.le_trans h2 hb.size, h3.trans (hb.mono h2)⟩
theorem DkO.drew (h : DkO n w0 g xs k w) : DkO n w0 g xs k w.drew := h.on ⟨rfl, rfl, rfl, Nat.le_refl _, fun _ _ => rfl⟩
theorem DkO.turn {v : Value} {xs' : List UInt8} {k' : Nat} (h1 : Dsk w n g v xs k) (h2 : n ≤ w.heap.size) (h3 : Below n w0 w) (h : DR n g v xs' k' w w') : DkO n w0 g xs' k' w' := by
  obtain ⟨v', g1, g2, g3⟩ := h
  exact ⟨v', g1, Nat.le_trans h2 g3.size, g3.below h3 (fun x hx => (h1.all x hx).1) h2⟩
theorem DkT.bel (h : DkT n w0 g c xs k ys j w) : Below n w0 w := by
  obtain ⟨_, _, _, _, _, _, h⟩ := h
  exact h
theorem DkT.symm (h : DkT n w0 g c xs k ys j w) : DkT n w0 c g ys j xs k w := by
  obtain ⟨v, u, h1, h2, h3, h4, h5⟩ := h
  exact ⟨u, v, h2, h1, fun x hx hy => h3 x hy hx, h4, h5⟩
theorem DkT.left (h : DkT n w0 g c xs k ys j w) : DkO n w0 g xs k w := by
  obtain ⟨v, u, h1, h2, h3, h4, h5⟩ := h
  exact ⟨v, h1, h4, h5⟩
theorem DkT.on (h : DkT n w0 g c xs k ys j w) (hb : Below w.heap.size w w') : DkT n w0 g c xs k ys j w' := by
  obtain ⟨v, u, h1, h2, h3, h4, h5⟩ := h
  exact ⟨v, u, h1.on hb, h2.on hb, h3, Nat.le_trans h4 hb.size, h5.trans (hb.mono h4)⟩
theorem DkT.turn {v u : Value} {xs' : List UInt8} {k' : Nat} (h1 : Dsk w n g v xs k) (h2 : Dsk w n c u ys j) (h3 : ∀ x, dblks g v x → ¬ dblks c u x) (h4 : n ≤ w.heap.size) (h5 : Below n w0 w) (h : DR n g v xs' k' w w') : DkT n w0 g c xs' k' ys j w' := by
  obtain ⟨v', g1, g2, g3⟩ := h
  refine ⟨v', u, g1, h2.keep g3 fun x hx hy => h3 x hy hx, fun x hx hy => ?_, Nat.le_trans h4 g3.size, g3.below h5 (fun x hx => (h1.all x hx).1) h4⟩
  rcases hx with rfl | hx
  · exact h3 _ (.inl rfl) hy
  · rcases g2 x hx with hx | hx
    · exact h3 _ (.inr hx) hy
    · have := (h2.all x hy).2; omega

theorem o_new (w0 w : World) (n : Nat) (hb : Below n w0 w) (hn : n ≤ w.heap.size) : Calls Try.prog 14 #[] w fun e w' => e = .returned (.pointer (some ⟨w.heap.size, 0, none⟩)) ∧ DkO n w0 w.heap.size [] 0 w' :=
  (dnew_any w).mono fun _ _ ⟨he, ⟨d1, d2, d3, d4, d5⟩, hw⟩ => ⟨he, _, ⟨d1, ownsRow_low d2 hn, d3, Nat.le_trans hn d4, d5⟩, Nat.le_trans hn hw.size, hb.trans (hw.mono hn)⟩
theorem o_append (h : DkO n w0 g xs k w) {u : Value} {B : Nat} (hy : Byt w B u ys) (hlim : xs.length + ys.length ≤ 140737488355328) :
    Calls Try.prog 28 #[.pointer (some ⟨g, 0, none⟩), u] w fun e w' => e = .returned (.tuple #[]) ∧ DkO n w0 g (xs ++ ys) k w' := by
  obtain ⟨v, h1, h2, h3⟩ := h
  exact (dappend_any h1 h2 u ys B hy hlim).mono fun e w' ⟨he, hr⟩ => ⟨he, .turn h1 h2 h3 hr⟩
theorem o_sync (h : DkO n w0 g xs k w) : Calls Try.prog 16 #[.pointer (some ⟨g, 0, none⟩)] w fun e w' => e = .returned (.tuple #[]) ∧ DkO n w0 g xs xs.length w' := by
  obtain ⟨v, h1, h2, h3⟩ := h
  exact (dsync_any h1).mono fun e w' ⟨he, hr, _⟩ => ⟨he, .turn h1 h2 h3 hr⟩
theorem o_crash (h : DkO n w0 g xs k w) (hlim : xs.length ≤ 140737488355328) (keep : Int) :
    Calls Try.prog 17 #[.pointer (some ⟨g, 0, none⟩), .int .i64 keep] w fun e w' => e = .returned (.tuple #[]) ∧ DkO n w0 g (xs.take (crashN xs.length k keep)) (crashN xs.length k keep) w' := by
  obtain ⟨v, h1, h2, h3⟩ := h
  exact (dcrash_any h1 hlim keep).mono fun e w' ⟨he, hr⟩ => ⟨he, .turn h1 h2 h3 hr⟩
theorem o_cut (h : DkO n w0 g xs k w) (m : Nat) (hm : m ≤ xs.length) :
    Calls Try.prog 31 #[.pointer (some ⟨g, 0, none⟩), .int .i64 m] w fun e w' => e = .returned (.int .i64 0) ∧ DkO n w0 g (xs.take m) m w' := by
  obtain ⟨v, h1, h2, h3⟩ := h
  exact (dcut_any h1 m hm).mono fun e w' ⟨he, hr⟩ => ⟨he, .turn h1 h2 h3 hr⟩
theorem o_out (h : DkO n w0 g xs k w) (x : Int) (hx : x < 0 ∨ (xs.length : Int) < x) :
    Calls Try.prog 31 #[.pointer (some ⟨g, 0, none⟩), .int .i64 x] w fun e w' => e = .returned (.int .i64 6) ∧ w = w' := by
  obtain ⟨v, h1, h2, h3⟩ := h
  exact dcut_out h1 x hx
theorem o_len (h : DkO n w0 g xs k w) : Calls Try.prog 20 #[.pointer (some ⟨g, 0, none⟩)] w fun e w' => e = .returned (.int .i64 xs.length) ∧ w = w' := by
  obtain ⟨v, h1, h2, h3⟩ := h
  exact dlen_any h1
theorem o_synced (h : DkO n w0 g xs k w) : Calls Try.prog 21 #[.pointer (some ⟨g, 0, none⟩)] w fun e w' => e = .returned (.int .i64 k) ∧ w = w' := by
  obtain ⟨v, h1, h2, h3⟩ := h
  exact dsynced_any h1
/-- Bytes are told. -/
def TellsB (xs : List UInt8) (w : World) (e : Ending) (w' : World) : Prop := ∃ a c, e = .returned (.slice a xs.length c) ∧ Byt w' w'.heap.size (.slice a xs.length c) xs ∧ w'.ownsRow w.heap.size 5 1 (.slice a xs.length c) xs.length (Lib.byteCells xs) ∧ Below w.heap.size w w'
theorem o_bytes (h : DkO n w0 g xs k w) (hlim : xs.length ≤ 140737488355328) : Calls Try.prog 18 #[.pointer (some ⟨g, 0, none⟩)] w (TellsB xs w) := by
  obtain ⟨v, h1, h2, h3⟩ := h
  refine (dbytes_any h1 hlim).mono ?_
  rintro e w' ⟨v', rfl, hr, hb⟩
  obtain ⟨a, c, rfl⟩ := own_shape hr
  exact ⟨a, c, rfl, byt_own hr (Nat.le_refl _), hr, hb⟩
theorem t_append (h : DkT n w0 g c xs k ys j w) {u : Value} {B : Nat} {zs : List UInt8} (hy : Byt w B u zs) (hlim : xs.length + zs.length ≤ 140737488355328) :
    Calls Try.prog 28 #[.pointer (some ⟨g, 0, none⟩), u] w fun e w' => e = .returned (.tuple #[]) ∧ DkT n w0 g c (xs ++ zs) k ys j w' := by
  obtain ⟨v, u', h1, h2, h3, h4, h5⟩ := h
  exact (dappend_any h1 h4 u zs B hy hlim).mono fun e w' ⟨he, hr⟩ => ⟨he, .turn h1 h2 h3 h4 h5 hr⟩
theorem t_crash (h : DkT n w0 g c xs k ys j w) (hlim : xs.length ≤ 140737488355328) (keep : Int) :
    Calls Try.prog 17 #[.pointer (some ⟨g, 0, none⟩), .int .i64 keep] w fun e w' => e = .returned (.tuple #[]) ∧ DkT n w0 g c (xs.take (crashN xs.length k keep)) (crashN xs.length k keep) ys j w' := by
  obtain ⟨v, u, h1, h2, h3, h4, h5⟩ := h
  exact (dcrash_any h1 hlim keep).mono fun e w' ⟨he, hr⟩ => ⟨he, .turn h1 h2 h3 h4 h5 hr⟩
theorem t_cut (h : DkT n w0 g c xs k ys j w) (m : Nat) (hm : m ≤ xs.length) :
    Calls Try.prog 31 #[.pointer (some ⟨g, 0, none⟩), .int .i64 m] w fun e w' => e = .returned (.int .i64 0) ∧ DkT n w0 g c (xs.take m) m ys j w' := by
  obtain ⟨v, u, h1, h2, h3, h4, h5⟩ := h
  exact (dcut_any h1 m hm).mono fun e w' ⟨he, hr⟩ => ⟨he, .turn h1 h2 h3 h4 h5 hr⟩
end

end Go.Proofs.Ytpmigpgkicacpaa
