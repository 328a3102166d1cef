/-
  THE PROGRAM's DISK AND THE REFERENCE's, side by side, with the block of a step: each call of either by contract. No condition but that lengths stay below 2^47.
-/
import Derived.Test.YtgbfpabmkjkgnaaDiskR
namespace Go.Proofs.Ytgbfpabmkjkgnaa
open Go.RowKit

/-- Every block of the reference's disks and of steps stands as it was. -/
def KD (w w' : World) : Prop := ∀ (x : Nat) (cs : Array Value) (e : TypeId), (e = 27 ∨ e = 30) → w.heap[x]? = some (.cells cs e (0, 0)) → w'.heap[x]? = some (.cells cs e (0, 0))
theorem KD.trans {u v w : World} (h : KD u v) (k : KD v w) : KD u w := fun x cs e he hx => k x cs e he (h x cs e he hx)
theorem KD.of {w w' : World} (h : Below w.heap.size w w') : KD w w' := fun x _ _ _ hx => (h.block x (lt_of_block hx)).trans hx
theorem Dsk.kind {w : World} {n g : Nat} {v : Value} {xs : List UInt8} {k : Nat} (H : Dsk w n g v xs k) : ∀ x, dblks g v x → ∃ cs e, w.heap[x]? = some (.cells cs e (0, 0)) ∧ (e = 42 ∨ e = 5) := by
  rintro x (rfl | hx)
  · exact ⟨_, _, H.blk, .inl rfl⟩
  · rcases H.row.2 with ⟨rfl, _⟩ | ⟨b, cap, cur, rfl, hb, hh, _⟩
    · simp [Value.ownBlock] at hx
    · simp only [Value.ownBlock, Option.some.injEq] at hx
      subst hx
      exact ⟨_, _, hh, .inr rfl⟩
theorem DR.kd {w w' : World} {n g : Nat} {v : Value} {xs xs' : List UInt8} {k k' : Nat} (H : Dsk w n g v xs k) (h : DR n g v xs' k' w w') : KD w w' := by
  obtain ⟨v', _, _, ho⟩ := h
  intro x cs e he hx
  refine (ho.block x (lt_of_block hx) fun hb => ?_).trans hx
  obtain ⟨cs', e', h1, h2⟩ := H.kind x hb
  have := h1.symm.trans hx
  simp only [Option.some.injEq, Obj.cells.injEq] at this
  obtain ⟨_, rfl, _⟩ := this
  rcases h2 with rfl | rfl <;> simp at he

section
variable {n : Nat} {w0 w w' : World} {g c : Nat} {xs ys : List UInt8} {k j : Nat}
theorem k_append (h : DkO n w0 g xs k w) {u : Value} {B : Nat} (hy : Byt w B u ys) (hlim : xs.length + ys.length ≤ 140737488355328) :
    Calls Try.prog 9 #[.pointer (some ⟨g, 0, none⟩), u] w fun e w' => e = .returned (.tuple #[]) ∧ DkO n w0 g (xs ++ ys) k w' ∧ KD w w' := by
  obtain ⟨v, h1, h2, h3⟩ := h
  exact (dappend_any h1 h2 u ys B hy hlim).mono fun _ _ ⟨he, hr⟩ => ⟨he, .turn h1 h2 h3 hr, DR.kd h1 hr⟩
theorem k_sync (h : DkO n w0 g xs k w) : Calls Try.prog 10 #[.pointer (some ⟨g, 0, none⟩)] w fun e w' => e = .returned (.tuple #[]) ∧ DkO n w0 g xs xs.length w' ∧ KD w w' := by
  obtain ⟨v, h1, h2, h3⟩ := h
  exact (dsync_any h1).mono fun _ _ ⟨he, hr, _⟩ => ⟨he, .turn h1 h2 h3 hr, DR.kd h1 hr⟩
theorem k_crash (h : DkO n w0 g xs k w) (hlim : xs.length ≤ 140737488355328) (keep : Int) :
    Calls Try.prog 12 #[.pointer (some ⟨g, 0, none⟩), .int .i64 keep] w fun e w' => e = .returned (.tuple #[]) ∧ DkO n w0 g (xs.take (crashN xs.length k keep)) (crashN xs.length k keep) w' ∧ KD w w' := by
  obtain ⟨v, h1, h2, h3⟩ := h
  exact (dcrash_any h1 hlim keep).mono fun _ _ ⟨he, hr⟩ => ⟨he, .turn h1 h2 h3 hr, DR.kd h1 hr⟩
theorem k_cut (h : DkO n w0 g xs k w) (m : Nat) (hm : m ≤ xs.length) :
    Calls Try.prog 11 #[.pointer (some ⟨g, 0, none⟩), .int .i64 m] w fun e w' => e = .returned (.int .i64 0) ∧ DkO n w0 g (xs.take m) m w' ∧ KD w w' := by
  obtain ⟨v, h1, h2, h3⟩ := h
  exact (dcut_any h1 m hm).mono fun _ _ ⟨he, hr⟩ => ⟨he, .turn h1 h2 h3 hr, DR.kd h1 hr⟩
theorem kt_append (h : DkT n w0 g c xs k ys j w) {u : Value} {B : Nat} {zs : List UInt8} (hy : Byt w B u zs) (hlim : xs.length + zs.length ≤ 140737488355328) :
    Calls Try.prog 9 #[.pointer (some ⟨g, 0, none⟩), u] w fun e w' => e = .returned (.tuple #[]) ∧ DkT n w0 g c (xs ++ zs) k ys j w' ∧ KD w w' := by
  obtain ⟨v, u', h1, h2, h3, h4, h5⟩ := h
  exact (dappend_any h1 h4 u zs B hy hlim).mono fun _ _ ⟨he, hr⟩ => ⟨he, .turn h1 h2 h3 h4 h5 hr, DR.kd h1 hr⟩
theorem kt_crash (h : DkT n w0 g c xs k ys j w) (hlim : xs.length ≤ 140737488355328) (keep : Int) :
    Calls Try.prog 12 #[.pointer (some ⟨g, 0, none⟩), .int .i64 keep] w fun e w' => e = .returned (.tuple #[]) ∧ DkT n w0 g c (xs.take (crashN xs.length k keep)) (crashN xs.length k keep) ys j w' ∧ KD w w' := by
  obtain ⟨v, u, h1, h2, h3, h4, h5⟩ := h
  exact (dcrash_any h1 hlim keep).mono fun _ _ ⟨he, hr⟩ => ⟨he, .turn h1 h2 h3 h4 h5 hr, DR.kd h1 hr⟩
/-- The program's disk stands where the reference's alone is written. -/
theorem DkO.ref {R : Nat} {Z : ByteArray} {j : Nat} (h : DkO n w0 g xs k w) (hR : RD w R Z j) (hn : n ≤ R) (ho : Only (· = R) w w') : DkO n w0 g xs k w' := by
  obtain ⟨v, h1, h2, h3⟩ := h
  refine ⟨v, h1.keep ho fun x hx e => ?_, Nat.le_trans h2 ho.size, ho.below h3 (fun x e => e ▸ hn) h2⟩
  subst e
  obtain ⟨cs, e, h4, h5⟩ := h1.kind x hx
  have := h4.symm.trans (show w.heap[x]? = _ from hR)
  simp only [Option.some.injEq, Obj.cells.injEq] at this
  obtain ⟨_, rfl, _⟩ := this
  rcases h5 with h | h <;> simp at h
end

/-- Block p is a step's. -/
def Stp (w : World) (p : Nat) (kd nn : Int) (bv : Value) : Prop := w.heap[p]? = some (.cells #[.int .i64 kd, .int .i64 nn, bv] 30 (0, 0))
/-- The program's disk (its bytes Y, the first k synced), the reference's (Z, j), and the step's block stand. -/
structure DSt (n : Nat) (w0 : World) (g R p : Nat) (kd nn : Int) (bv : Value) (Y : List UInt8) (k : Nat) (Z : ByteArray) (j : Nat) (u : World) : Prop where
  dk : DkO n w0 g Y k u
  rd : RD u R Z j
  rn : n ≤ R
  op : Stp u p kd nn bv

section
variable {n : Nat} {w0 u u' : World} {g R p : Nat} {kd nn : Int} {bv : Value} {Y : List UInt8} {k : Nat} {Z : ByteArray} {j : Nat}
theorem DSt.turn {g' : Nat} {Y' : List UInt8} {k' : Nat} (h : DSt n w0 g R p kd nn bv Y k Z j u) (hd : DkO n w0 g' Y' k' u') (hk : KD u u') : DSt n w0 g' R p kd nn bv Y' k' Z j u' :=
  ⟨hd, hk _ _ _ (.inl rfl) h.rd, h.rn, hk _ _ _ (.inr rfl) h.op⟩
theorem DSt.on (h : DSt n w0 g R p kd nn bv Y k Z j u) (hb : Below u.heap.size u u') : DSt n w0 g R p kd nn bv Y k Z j u' := h.turn (h.dk.on hb) (.of hb)
theorem DSt.drew (h : DSt n w0 g R p kd nn bv Y k Z j u) : DSt n w0 g R p kd nn bv Y k Z j u.drew := h.on ⟨rfl, rfl, rfl, Nat.le_refl _, fun _ _ => rfl⟩
theorem DSt.drewN (h : DSt n w0 g R p kd nn bv Y k Z j u) (q : Nat) : DSt n w0 g R p kd nn bv Y k Z j (u.drewN q) := h.on ⟨rfl, rfl, rfl, Nat.le_refl _, fun _ _ => rfl⟩
theorem DSt.cells (h : DSt n w0 g R p kd nn bv Y k Z j u) : u.cell? ⟨p, 0, none⟩ = some (.int .i64 kd) ∧ u.cell? ⟨p, 1, none⟩ = some (.int .i64 nn) ∧ u.cell? ⟨p, 2, none⟩ = some bv := by
  have H' : u.heap[p]? = some (.cells #[.int .i64 kd, .int .i64 nn, bv] 30 (0, 0)) := h.op
  refine ⟨?_, ?_, ?_⟩ <;> simp [World.cell?, H']
theorem DSt.ref {Z' : ByteArray} {j' : Nat} (h : DSt n w0 g R p kd nn bv Y k Z j u) (hr : RD u' R Z' j') (ho : Only (· = R) u u') : DSt n w0 g R p kd nn bv Y k Z' j' u' := by
  refine ⟨h.dk.ref h.rd h.rn ho, hr, h.rn, ?_⟩
  have h0 : u.heap[p]? = some (.cells #[.int .i64 kd, .int .i64 nn, bv] 30 (0, 0)) := h.op
  refine (ho.block p (lt_of_block h0) fun e => ?_).trans h0
  have := h0.symm.trans (e ▸ (show u.heap[R]? = _ from h.rd))
  simp at this
theorem DSt.setS (h : DSt n w0 g R p kd nn bv Y k Z j u) (Z' : ByteArray) : DSt n w0 g R p kd nn bv Y k Z' j (u.setCell ⟨R, 0, none⟩ (.string Z')) := h.ref (h.rd.setS Z') (Only.set R 0 u _)
theorem DSt.setJ (h : DSt n w0 g R p kd nn bv Y k Z j u) (j' : Nat) : DSt n w0 g R p kd nn bv Y k Z j' (u.setCell ⟨R, 1, none⟩ (.int .i64 j')) := h.ref (h.rd.setJ j') (Only.set R 1 u _)

theorem s_append (h : DSt n w0 g R p kd nn bv Y k Z j u) {v : Value} {B : Nat} {ys : List UInt8} (hy : Byt u B v ys) (hlim : Y.length + ys.length ≤ 140737488355328) :
    Calls Try.prog 9 #[.pointer (some ⟨g, 0, none⟩), v] u fun e w' => e = .returned (.tuple #[]) ∧ DSt n w0 g R p kd nn bv (Y ++ ys) k Z j w' :=
  (k_append h.dk hy hlim).mono fun _ _ ⟨he, hd, hk⟩ => ⟨he, h.turn hd hk⟩
theorem s_sync (h : DSt n w0 g R p kd nn bv Y k Z j u) :
    Calls Try.prog 10 #[.pointer (some ⟨g, 0, none⟩)] u fun e w' => e = .returned (.tuple #[]) ∧ DSt n w0 g R p kd nn bv Y Y.length Z j w' :=
  (k_sync h.dk).mono fun _ _ ⟨he, hd, hk⟩ => ⟨he, h.turn hd hk⟩
theorem s_crash (h : DSt n w0 g R p kd nn bv Y k Z j u) (hlim : Y.length ≤ 140737488355328) (keep : Int) :
    Calls Try.prog 12 #[.pointer (some ⟨g, 0, none⟩), .int .i64 keep] u fun e w' => e = .returned (.tuple #[]) ∧ DSt n w0 g R p kd nn bv (Y.take (crashN Y.length k keep)) (crashN Y.length k keep) Z j w' :=
  (k_crash h.dk hlim keep).mono fun _ _ ⟨he, hd, hk⟩ => ⟨he, h.turn hd hk⟩
theorem s_cut (h : DSt n w0 g R p kd nn bv Y k Z j u) (m : Nat) (hm : m ≤ Y.length) :
    Calls Try.prog 11 #[.pointer (some ⟨g, 0, none⟩), .int .i64 m] u fun e w' => e = .returned (.int .i64 0) ∧ DSt n w0 g R p kd nn bv (Y.take m) m Z j w' :=
  (k_cut h.dk m hm).mono fun _ _ ⟨he, hd, hk⟩ => ⟨he, h.turn hd hk⟩
theorem s_rcrash (h : DSt n w0 g R p kd nn bv Y k Z j u) (hj : j ≤ Z.size) (hlim : Z.size ≤ 140737488355328) (keep : Int) :
    Calls Try.prog 13 #[.pointer (some ⟨R, 0, none⟩), .int .i64 keep] u fun e w' => e = .returned (.tuple #[]) ∧ DSt n w0 g R p kd nn bv Y k (Z.extract 0 (crashN Z.size j keep)) (crashN Z.size j keep) w' :=
  (rdcrash_any h.rd hj hlim keep).mono fun _ _ ⟨he, hr, ho⟩ => ⟨he, h.ref hr ho⟩
/-- Bytes are told, and all stands. -/
theorem s_bytes (h : DSt n w0 g R p kd nn bv Y k Z j u) (hlim : Y.length ≤ 140737488355328) :
    Calls Try.prog 15 #[.pointer (some ⟨g, 0, none⟩)] u fun e w' => TellsB Y u e w' ∧ DSt n w0 g R p kd nn bv Y k Z j w' :=
  (o_bytes h.dk hlim).mono fun _ _ ht => ⟨ht, by obtain ⟨_, _, _, _, _, hb⟩ := ht; exact h.on hb⟩
/-- Two disks, the reference's and the step's block stand. -/
structure DSt2 (n : Nat) (w0 : World) (g c R p : Nat) (kd nn : Int) (bv : Value) (X : List UInt8) (i : Nat) (Y : List UInt8) (k : Nat) (Z : ByteArray) (j : Nat) (u : World) : Prop where
  dk : DkT n w0 g c X i Y k u
  rd : RD u R Z j
  rn : n ≤ R
  op : Stp u p kd nn bv
theorem s_copy (h : DSt n w0 g R p kd nn bv Y k Z j u) (hlim : Y.length ≤ 140737488355328) :
    Calls Try.prog 14 #[.pointer (some ⟨g, 0, none⟩)] u fun e w' => ∃ c, e = .returned (.pointer (some ⟨c, 0, none⟩)) ∧ DSt2 n w0 g c R p kd nn bv Y k Y k Z j w' :=
  (o_copy h.dk hlim).mono fun _ _ ⟨c, he, hd, hb⟩ => ⟨c, he, hd, (KD.of hb) _ _ _ (.inl rfl) h.rd, h.rn, (KD.of hb) _ _ _ (.inr rfl) h.op⟩
variable {c : Nat} {X : List UInt8} {i : Nat}
theorem DSt2.on (h : DSt2 n w0 g c R p kd nn bv X i Y k Z j u) (hb : Below u.heap.size u u') : DSt2 n w0 g c R p kd nn bv X i Y k Z j u' :=
  ⟨h.dk.on hb, (KD.of hb) _ _ _ (.inl rfl) h.rd, h.rn, (KD.of hb) _ _ _ (.inr rfl) h.op⟩
theorem s2_append (h : DSt2 n w0 g c R p kd nn bv X i Y k Z j u) {v : Value} {B : Nat} {ys : List UInt8} (hy : Byt u B v ys) (hlim : X.length + ys.length ≤ 140737488355328) :
    Calls Try.prog 9 #[.pointer (some ⟨g, 0, none⟩), v] u fun e w' => e = .returned (.tuple #[]) ∧ DSt2 n w0 g c R p kd nn bv (X ++ ys) i Y k Z j w' :=
  (kt_append h.dk hy hlim).mono fun _ _ ⟨he, hd, hk⟩ => ⟨he, hd, hk _ _ _ (.inl rfl) h.rd, h.rn, hk _ _ _ (.inr rfl) h.op⟩
theorem s2_crash (h : DSt2 n w0 g c R p kd nn bv X i Y k Z j u) (hlim : X.length ≤ 140737488355328) (keep : Int) :
    Calls Try.prog 12 #[.pointer (some ⟨g, 0, none⟩), .int .i64 keep] u fun e w' => e = .returned (.tuple #[]) ∧ DSt n w0 c R p kd nn bv Y k Z j w' :=
  (kt_crash h.dk hlim keep).mono fun _ _ ⟨he, hd, hk⟩ => ⟨he, hd.symm.left, hk _ _ _ (.inl rfl) h.rd, h.rn, hk _ _ _ (.inr rfl) h.op⟩
end
end Go.Proofs.Ytgbfpabmkjkgnaa
