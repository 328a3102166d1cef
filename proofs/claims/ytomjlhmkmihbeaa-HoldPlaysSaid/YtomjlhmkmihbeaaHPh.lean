/-
  BOTH LEASES IN MEMORY, and a step's block: each call of either by contract. No condition but that there were at most a thousand questions.
-/
import Derived.Test.YtomjlhmkmihbeaaHRel
namespace Go.Proofs.Ytomjlhmkmihbeaa
open Go.RowKit

/-- A step's numbers. -/
structure Nums where
  k0 : Int
  k1 : Int
  k2 : Int
  k3 : Int
  k4 : Int
def Nums.cells (z : Nums) : Array Value := #[.int .i64 z.k0, .int .i64 z.k1, .int .i64 z.k2, .int .i64 z.k3, .int .i64 z.k4]
structure PH (n0 : Nat) (w : World) (p rb N r1 : Nat) (qs : Nat → QV) (r2 : Nat) (sv : Value) (L : List RQ) (u : World) : Prop where
  lo : LO n0 w p N r1 qs u
  rh : RHd u n0 rb N r2 sv L
structure PS (n0 : Nat) (w : World) (p rb N r1 : Nat) (qs : Nat → QV) (r2 : Nat) (sv : Value) (L : List RQ) (o : Nat) (z : Nums) (u : World) : Prop where
  b : PH n0 w p rb N r1 qs r2 sv L u
  ob : u.heap[o]? = some (.cells z.cells 36 (0, 0))
section
variable {n0 : Nat} {w u u' : World} {p rb N r1 : Nat} {qs : Nat → QV} {r2 : Nat} {sv : Value} {L : List RQ} {o : Nat} {z : Nums}
theorem PH.on (h : PH n0 w p rb N r1 qs r2 sv L u) (hb : Below u.heap.size u u') : PH n0 w p rb N r1 qs r2 sv L u' := ⟨h.lo.on hb, h.rh.on hb⟩
theorem PS.on (h : PS n0 w p rb N r1 qs r2 sv L o z u) (hb : Below u.heap.size u u') : PS n0 w p rb N r1 qs r2 sv L o z u' := ⟨h.b.on hb, (hb.block o (lt_of_block h.ob)).trans h.ob⟩
theorem PS.cells (h : PS n0 w p rb N r1 qs r2 sv L o z u) : u.cell? ⟨o, 1, none⟩ = some (.int .i64 z.k1) ∧ u.cell? ⟨o, 2, none⟩ = some (.int .i64 z.k2) ∧ u.cell? ⟨o, 3, none⟩ = some (.int .i64 z.k3) ∧ u.cell? ⟨o, 4, none⟩ = some (.int .i64 z.k4) := by
  have h' := h.ob
  refine ⟨?_, ?_, ?_, ?_⟩ <;> (rw [cell_of_row _ _ _ _ _ _ h']; rfl)
/-- The program's call turned its lease alone. -/
theorem PH.prog (h : PH n0 w p rb N r1 qs r2 sv L u) {r1' : Nat} {qs' : Nat → QV} (hl : LO n0 w p N r1' qs' u') (hk : KHd u u') : PH n0 w p rb N r1' qs' r2 sv L u' := ⟨hl, h.rh.beside hk⟩
theorem PS.prog (h : PS n0 w p rb N r1 qs r2 sv L o z u) {r1' : Nat} {qs' : Nat → QV} (hl : LO n0 w p N r1' qs' u') (hk : KHd u u') : PS n0 w p rb N r1' qs' r2 sv L o z u' := ⟨h.b.prog hl hk, hk.same o _ _ h.ob (by decide)⟩
theorem LO.ref (h : LO n0 w p N r1 qs u) (hk : KRf n0 u u') : LO n0 w p N r1 qs u' := ⟨⟨hk.same _ _ _ h.hd.blk (by decide) (by decide), h.hd.pos, h.hd.le⟩, h.as_, hk.bel _ h.size h.bel, h.low, h.nw⟩
/-- The reference's call turned its own alone. -/
theorem PH.ref (h : PH n0 w p rb N r1 qs r2 sv L u) {r2' : Nat} {sv' : Value} {L' : List RQ} (hr : RHd u' n0 rb N r2' sv' L') (hk : KRf n0 u u') : PH n0 w p rb N r1 qs r2' sv' L' u' := ⟨h.lo.ref hk, hr⟩
theorem PS.ref (h : PS n0 w p rb N r1 qs r2 sv L o z u) {r2' : Nat} {sv' : Value} {L' : List RQ} (hr : RHd u' n0 rb N r2' sv' L') (hk : KRf n0 u u') : PS n0 w p rb N r1 qs r2' sv' L' o z u' := ⟨h.b.ref hr hk, hk.same o _ _ h.ob (by decide) (by decide)⟩

/-- Ask, of both. -/
theorem ask_both {r : Nat} (hr : r ≤ 1000) (hrel : Rel r qs L) (z : Nums) : ∃ (V : Int) (r' : Nat) (qs' : Nat → QV) (L' : List RQ), r' ≤ r + 1 ∧ Rel r' qs' L' ∧
    (∀ u, PS n0 w p rb N r qs r sv L o z u → Calls Try.prog 13 #[.pointer (some ⟨p, 0, none⟩), .int .i64 z.k1, .int .i64 z.k2] u fun e w' => e = .returned (.int .i64 V) ∧ PS n0 w p rb N r' qs' r sv L o z w') ∧
    (∀ u, PS n0 w p rb N r' qs' r sv L o z u → Calls Try.prog 17 #[.pointer (some ⟨rb, 0, none⟩), .int .i64 z.k1, .int .i64 z.k2] u fun e w' => e = .returned (.int .i64 V) ∧ ∃ sv', PS n0 w p rb N r' qs' r' sv' L' o z w') := by
  cases hA : askB r qs z.k1 z.k2 with
  | true =>
    refine ⟨(r : Int) + 1, r + 1, _, _, Nat.le_refl _, rel_asked hrel z.k1 z.k2 (.slice none 0 0), fun u hu => ?_, fun u hu => ?_⟩
    · exact (hu.b.lo.ask (by omega) z.k1 z.k2 hA rfl).mono fun _ _ ⟨he, hh⟩ => ⟨he, hu.prog hh.out.1 hh.out.2⟩
    · exact (qhask_yes hu.b.rh (by omega) hrel.l4 hu.b.lo.size z.k1 z.k2 ((rel_ask hrel _ _).symm.trans hA)).mono fun _ _ ⟨he, sv', hR, ho⟩ => ⟨he, sv', hu.ref hR (KRf.only hu.b.rh.blk (.inl rfl) hu.b.rh.low ho)⟩
  | false =>
    refine ⟨-1, r, qs, L, Nat.le_succ _, hrel, fun u hu => ?_, fun u hu => ?_⟩
    · exact (hu.b.lo.ask_no (by omega) z.k1 z.k2 hA).mono fun _ _ ⟨he, hw⟩ => ⟨he, hw ▸ hu⟩
    · exact (qhask_no hu.b.rh hrel.l4 z.k1 z.k2 ((rel_ask hrel _ _).symm.trans hA)).mono fun _ _ ⟨he, hb⟩ => ⟨he, sv, hu.on hb⟩
/-- Told, of both. -/
theorem tell_both {r : Nat} (hr : r ≤ 1000) (hN : N ≤ 5) (hrel : Rel r qs L) (z : Nums) : ∃ (V : Bool) (qs' : Nat → QV),
    (∀ u, PS n0 w p rb N r qs r sv L o z u → Calls Try.prog 14 #[.pointer (some ⟨p, 0, none⟩), .int .i64 z.k3, .int .i64 z.k4] u fun e w' => e = .returned (.bool V) ∧ PS n0 w p rb N r qs' r sv L o z w') ∧
    (∀ u, PS n0 w p rb N r qs' r sv L o z u → Calls Try.prog 18 #[.pointer (some ⟨rb, 0, none⟩), .int .i64 z.k3, .int .i64 z.k4] u fun e w' => e = .returned (.bool V) ∧ ∃ L', Rel r qs' L' ∧ PS n0 w p rb N r qs' r sv L' o z w') := by
  have hiff := rel_tell hrel N z.k3 z.k4
  cases hA : tellB N r qs z.k3 z.k4 with
  | true =>
    obtain ⟨hk, i0, hi0⟩ := hiff.1 hA
    refine ⟨true, upQ qs ((z.k3 - 1) % 4).toNat ((qs ((z.k3 - 1) % 4).toNat).tell z.k4.toNat), fun u hu => ?_, fun u hu => ?_⟩
    · exact (hu.b.lo.tell (by omega) z.k3 z.k4 hA rfl).mono fun _ _ ⟨he, hh⟩ => ⟨he, hu.prog hh.out.1 hh.out.2⟩
    · refine (qhtold_r hu.b.rh hrel.l4 hu.b.lo.size hrel.told5 z.k3 z.k4 hk).mono ?_
      rintro e w' (⟨_, hno, _⟩ | ⟨he, i, hi, hq, ⟨hin, hb⟩ | ⟨hin, v, hR, g, cs, hcs, hg, ho⟩⟩)
      · exact absurd hi0 (hno i0)
      · have hk5 : z.k4.toNat < 5 := by omega
        have ek : ((z.k4.toNat : Nat) : Int) = z.k4 := by omega
        exact ⟨he, L, rel_told hrel hk5 hi hq (.inl ⟨by rw [ek]; exact hin, rfl⟩), hu.on hb⟩
      · have hk5 : z.k4.toNat < 5 := by omega
        have ek : ((z.k4.toNat : Nat) : Int) = z.k4 := by omega
        exact ⟨he, _, rel_told hrel hk5 hi hq (.inr ⟨by rw [ek]; exact hin, v, by rw [ek]⟩), hu.ref hR (KRf.only hcs (.inr rfl) hg ho)⟩
  | false =>
    refine ⟨false, qs, fun u hu => ?_, fun u hu => ?_⟩
    · exact (hu.b.lo.tell_no (by omega) z.k3 z.k4 hA).mono fun _ _ ⟨he, hh⟩ => ⟨he, hu.on hh.out.2⟩
    · by_cases hk : 0 ≤ z.k4 ∧ z.k4 < (N : Int)
      · refine (qhtold_r hu.b.rh hrel.l4 hu.b.lo.size hrel.told5 z.k3 z.k4 hk).mono ?_
        rintro e w' (⟨he, _, hb⟩ | ⟨_, i, _, hq, _⟩)
        · exact ⟨he, L, hrel, hu.on hb⟩
        · have := hiff.2 ⟨hk, i, hq⟩
          rw [hA] at this
          cases this
      · exact (qhtold_out hu.b.rh z.k3 z.k4 hk).mono fun _ _ ⟨he, hb⟩ => ⟨he, L, hrel, hu.on hb⟩
/-- Valid, of both. -/
theorem valid_both {r : Nat} (hr : r ≤ 1000) (hN : N ≤ 5) (hrel : Rel r qs L) (t ep : Int) (ht : Top t) : ∃ V : Bool,
    (∀ u, PH n0 w p rb N r qs r sv L u → Calls Try.prog 16 #[.pointer (some ⟨p, 0, none⟩), .int .i64 t, .int .i64 ep] u fun e w' => e = .returned (.bool V) ∧ Below u.heap.size u w') ∧
    (∀ u, PH n0 w p rb N r qs r sv L u → Calls Try.prog 19 #[.pointer (some ⟨rb, 0, none⟩), .int .i64 t, .int .i64 ep] u fun e w' => e = .returned (.bool V) ∧ Below u.heap.size u w') :=
  ⟨validB N r qs t ep, fun _ hu => (hu.lo.valid (by omega) t ep ht rfl).mono fun _ _ ⟨he, hh⟩ => ⟨he, hh.out.2⟩,
    fun _ hu => qhvalid_r hu.rh hrel.l4 hN (hrel.at0 hu.lo.as_) t ep ht (rel_valid hrel N t ep rfl)⟩
theorem PH.lose (h : PH n0 w p rb N r1 qs r2 sv L u) (hr : r1 ≤ 1000) : Calls Try.prog 20 #[.pointer (some ⟨p, 0, none⟩)] u fun e w' => e = .returned (.tuple #[]) ∧ PH n0 w p rb N r1 (lostQ qs (min r1 4)) r2 sv L w' :=
  (h.lo.lose (by omega) rfl).mono fun _ _ ⟨he, hh⟩ => ⟨he, h.prog hh.out.1 hh.out.2⟩
theorem PH.lose2 (h : PH n0 w p rb N r1 qs r2 sv L u) (hl : L.length ≤ 4) : Calls Try.prog 21 #[.pointer (some ⟨rb, 0, none⟩)] u fun e w' => e = .returned (.tuple #[]) ∧ PH n0 w p rb N r1 qs r2 sv (clrL L L.length) w' :=
  (qhlost_r h.rh hl).mono fun _ _ ⟨he, hR, hk⟩ => ⟨he, h.ref hR hk⟩
end
theorem rh_fresh (w : World) (n0 N : Nat) (h : n0 ≤ w.heap.size) : RHd (w.alloc (.cells #[.int .i64 N, .int .i64 0, .slice none 0 0] 34)) n0 w.heap.size N 0 (.slice none 0 0) [] :=
  ⟨heap_alloc_new w _, .inl ⟨rfl, rfl⟩, fun q hq => (by cases hq), h⟩
end Go.Proofs.Ytomjlhmkmihbeaa
