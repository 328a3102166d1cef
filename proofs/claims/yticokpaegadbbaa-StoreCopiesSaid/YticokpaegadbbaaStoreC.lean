/-
  THE PROGRAM's STORE: Bytes, told of the store.
-/
import Derived.Test.YticokpaegadbbaaStoreB
namespace Go.Proofs.Yticokpaegadbbaa
open Go.RowKit

/-- A store's bytes. -/
def stoB (s : StoV) : List UInt8 := Lib.uvarint s.places.toNat ++ clsB (fun c => (s.cl c).seq.toNat) (fun c => (s.cl c).place.toNat) 4 ++ (idsV s.res 32).flatMap (resB s.res)
theorem stoB_len (s : StoV) (N : Nat) (hf : Fit s N) (hN : N ≤ 1000000) : (stoB s).length ≤ 300000 := by
  have h0 := Lib.uvarint_length64 (x := s.places.toNat) (by have := hf.places; omega)
  have h1 := clsB_len (fun c => (s.cl c).seq.toNat) (fun c => (s.cl c).place.toNat) (fun c hc => by have := hf.cl c hc; have := hf.places; omega) 4 (by omega)
  have h2 := entsB_len s.res hf.res (comeS s.res 32)
  have h3 : (comeS s.res 32).length * 7520 ≤ 32 * 7520 := Nat.mul_le_mul_right _ (comeS_len s.res 32)
  rw [entsB_come s.res 32 (Nat.le_refl _)] at h2
  simp only [stoB, List.length_append]
  omega

/-- The clients' cells are a row. -/
theorem sto_row {b : Nat} {s : StoV} {u : World} (y : Nat → Option Addr × Nat) (hk : ∀ k, k < 4 → u.cell? ⟨b, 2 + k * 6, none⟩ = some (.int .i64 (s.cl k).seq) ∧ u.cell? ⟨b, 2 + k * 6 + 1, none⟩ = some (.int .i64 (s.cl k).code) ∧ u.cell? ⟨b, 2 + k * 6 + 2, none⟩ = some (.int .i64 (s.cl k).ver) ∧
    u.cell? ⟨b, 2 + k * 6 + 3, none⟩ = some (.string (s.cl k).data) ∧ u.cell? ⟨b, 2 + k * 6 + 4, none⟩ = some (.slice (y k).1 0 (y k).2) ∧ u.cell? ⟨b, 2 + k * 6 + 5, none⟩ = some (.int .i64 (s.cl k).place)) (hf : ∀ k, k < 4 → 0 ≤ (s.cl k).seq ∧ 0 ≤ (s.cl k).place) :
    u.rangeAt b 2 [.int .i64 ((s.cl 0).seq.toNat : Nat), .int .i64 (s.cl 0).code, .int .i64 (s.cl 0).ver, .string (s.cl 0).data, .slice (y 0).1 0 (y 0).2, .int .i64 ((s.cl 0).place.toNat : Nat), .int .i64 ((s.cl 1).seq.toNat : Nat), .int .i64 (s.cl 1).code, .int .i64 (s.cl 1).ver, .string (s.cl 1).data, .slice (y 1).1 0 (y 1).2, .int .i64 ((s.cl 1).place.toNat : Nat), .int .i64 ((s.cl 2).seq.toNat : Nat), .int .i64 (s.cl 2).code, .int .i64 (s.cl 2).ver, .string (s.cl 2).data, .slice (y 2).1 0 (y 2).2, .int .i64 ((s.cl 2).place.toNat : Nat), .int .i64 ((s.cl 3).seq.toNat : Nat), .int .i64 (s.cl 3).code, .int .i64 (s.cl 3).ver, .string (s.cl 3).data, .slice (y 3).1 0 (y 3).2, .int .i64 ((s.cl 3).place.toNat : Nat)] := by
  have f0 := hf 0 (by decide)
  have f1 := hf 1 (by decide)
  have f2 := hf 2 (by decide)
  have f3 := hf 3 (by decide)
  rw [Int.toNat_of_nonneg f0.1, Int.toNat_of_nonneg f0.2, Int.toNat_of_nonneg f1.1, Int.toNat_of_nonneg f1.2, Int.toNat_of_nonneg f2.1, Int.toNat_of_nonneg f2.2, Int.toNat_of_nonneg f3.1, Int.toNat_of_nonneg f3.2]
  have g0 := hk 0 (by decide)
  have g1 := hk 1 (by decide)
  have g2 := hk 2 (by decide)
  have g3 := hk 3 (by decide)
  intro j v hj
  exact match j, hj with
  | 0, hj => by simp at hj; subst hj; exact g0.1
  | 1, hj => by simp at hj; subst hj; exact g0.2.1
  | 2, hj => by simp at hj; subst hj; exact g0.2.2.1
  | 3, hj => by simp at hj; subst hj; exact g0.2.2.2.1
  | 4, hj => by simp at hj; subst hj; exact g0.2.2.2.2.1
  | 5, hj => by simp at hj; subst hj; exact g0.2.2.2.2.2
  | 6, hj => by simp at hj; subst hj; exact g1.1
  | 7, hj => by simp at hj; subst hj; exact g1.2.1
  | 8, hj => by simp at hj; subst hj; exact g1.2.2.1
  | 9, hj => by simp at hj; subst hj; exact g1.2.2.2.1
  | 10, hj => by simp at hj; subst hj; exact g1.2.2.2.2.1
  | 11, hj => by simp at hj; subst hj; exact g1.2.2.2.2.2
  | 12, hj => by simp at hj; subst hj; exact g2.1
  | 13, hj => by simp at hj; subst hj; exact g2.2.1
  | 14, hj => by simp at hj; subst hj; exact g2.2.2.1
  | 15, hj => by simp at hj; subst hj; exact g2.2.2.2.1
  | 16, hj => by simp at hj; subst hj; exact g2.2.2.2.2.1
  | 17, hj => by simp at hj; subst hj; exact g2.2.2.2.2.2
  | 18, hj => by simp at hj; subst hj; exact g3.1
  | 19, hj => by simp at hj; subst hj; exact g3.2.1
  | 20, hj => by simp at hj; subst hj; exact g3.2.2.1
  | 21, hj => by simp at hj; subst hj; exact g3.2.2.2.1
  | 22, hj => by simp at hj; subst hj; exact g3.2.2.2.2.1
  | 23, hj => by simp at hj; subst hj; exact g3.2.2.2.2.2
  | j + 24, hj => by simp at hj

theorem sbytes_r (b : Nat) (s : StoV) (N : Nat) (w : World) (h : Sto layP w b s) (hf : Fit s N) (hN : N ≤ 1000000) : Calls Try.prog 20 #[.pointer (some ⟨b, 0, none⟩)] w (BytesAre (stoB s) w) := by
  have hbl := h.lt
  obtain ⟨f, hk, ht⟩ := h
  have each : ∀ c, c < 4 → ∃ y : Option Addr × Nat, f (layP.list c) = .slice y.1 0 y.2 := fun c hc => by
    obtain ⟨ao, cap, he, _⟩ := (ht.2.2.2.1 c hc).2.2.2.2.2
    exact ⟨(ao, cap), he⟩
  obtain ⟨y, hy⟩ := Go.Deep.choose_lt each
  have hC : ∀ u, Below w.heap.size w u → u.rangeAt b 2 [.int .i64 ((s.cl 0).seq.toNat : Nat), .int .i64 (s.cl 0).code, .int .i64 (s.cl 0).ver, .string (s.cl 0).data, .slice (y 0).1 0 (y 0).2, .int .i64 ((s.cl 0).place.toNat : Nat), .int .i64 ((s.cl 1).seq.toNat : Nat), .int .i64 (s.cl 1).code, .int .i64 (s.cl 1).ver, .string (s.cl 1).data, .slice (y 1).1 0 (y 1).2, .int .i64 ((s.cl 1).place.toNat : Nat), .int .i64 ((s.cl 2).seq.toNat : Nat), .int .i64 (s.cl 2).code, .int .i64 (s.cl 2).ver, .string (s.cl 2).data, .slice (y 2).1 0 (y 2).2, .int .i64 ((s.cl 2).place.toNat : Nat), .int .i64 ((s.cl 3).seq.toNat : Nat), .int .i64 (s.cl 3).code, .int .i64 (s.cl 3).ver, .string (s.cl 3).data, .slice (y 3).1 0 (y 3).2, .int .i64 ((s.cl 3).place.toNat : Nat)] := fun u hu => by
    refine sto_row y (fun k hk4 => ?_) (fun k hk4 => by have := hf.cl k hk4; omega)
    obtain ⟨g1, g2, g3, g4, g5, g6⟩ := ht.2.2.2.1 k hk4
    have e := hy k hk4
    have cc : ∀ j, j < 6 → u.cell? ⟨b, 2 + k * 6 + j, none⟩ = some (f (2 + k * 6 + j)) := fun j hj => (hu.cell (p := ⟨b, 2 + k * 6 + j, none⟩) hbl).trans (hk.cell (2 + k * 6 + j) (by omega))
    exact ⟨(cc 0 (by omega)).trans (congrArg some g1), (cc 1 (by omega)).trans (congrArg some g3), (cc 2 (by omega)).trans (congrArg some g4), (cc 3 (by omega)).trans (congrArg some g5), (cc 4 (by omega)).trans (congrArg some e), (cc 5 (by omega)).trans (congrArg some g2)⟩
  have hpl := hf.places
  refine callsIn_wide.1 (sbytes_in b s.places.toNat (by omega) (fun c => (s.cl c).seq.toNat) (fun c => (s.cl c).place.toNat) (fun c => (s.cl c).code) (fun c => (s.cl c).ver) (fun c => (s.cl c).data) (fun c => (y c).1) (fun c => (y c).2) (fun k hk4 => by have := hf.cl k hk4; omega)
    s.res (fun i => f (26 + i)) w hbl (fun i hi => (ht.2.2.2.2 i hi).shape) hf.res (fun i hi => hk.cell (26 + i) (by omega)) (fun i hi => ht.2.2.2.2 i hi) (fun u hu => ?_) hC (stoB s) (show _ = _ from rfl))
  rw [Int.toNat_of_nonneg hpl.1, ← ht.2.2.1]
  exact (hu.cell (p := ⟨b, 1, none⟩) hbl).trans (hk.cell 1 (by decide))
end Go.Proofs.Yticokpaegadbbaa
