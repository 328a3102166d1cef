/-
  THE REFERENCE's DISK: its block; Crash. No condition but that lengths stay below 2^47.
-/
import Derived.Test.YtgbfpabmkjkgnaaDiskO
namespace Go.Proofs.Ytgbfpabmkjkgnaa
open Go.RowKit

/-- Block R is the reference's disk: the text Z, the first j bytes synced. -/
def RD (w : World) (R : Nat) (Z : ByteArray) (j : Nat) : Prop := w.heap[R]? = some (.cells #[.string Z, .int .i64 j] 27 (0, 0))
theorem RD.cells {w : World} {R : Nat} {Z : ByteArray} {j : Nat} (H : RD w R Z j) : w.cell? ⟨R, 0, none⟩ = some (.string Z) ∧ w.cell? ⟨R, 1, none⟩ = some (.int .i64 j) ∧ w.frozen? ⟨R, 0, none⟩ = false ∧ w.frozen? ⟨R, 1, none⟩ = false := by
  have H' : w.heap[R]? = some (.cells #[.string Z, .int .i64 j] 27 (0, 0)) := H
  refine ⟨?_, ?_, ?_, ?_⟩ <;> simp [World.cell?, World.frozen?, H']
theorem RD.setS {w : World} {R : Nat} {Z : ByteArray} {j : Nat} (H : RD w R Z j) (Z' : ByteArray) : RD (w.setCell ⟨R, 0, none⟩ (.string Z')) R Z' j := by
  show (w.setCell _ _).heap[R]? = _
  rw [heap_setCell_same _ _ _ _ _ _ H]; rfl
theorem RD.setJ {w : World} {R : Nat} {Z : ByteArray} {j : Nat} (H : RD w R Z j) (j' : Nat) : RD (w.setCell ⟨R, 1, none⟩ (.int .i64 j')) R Z j' := by
  show (w.setCell _ _).heap[R]? = _
  rw [heap_setCell_same _ _ _ _ _ _ H]; rfl

theorem extract_size (Z : ByteArray) (m : Nat) (hm : m ≤ Z.size) : (Z.extract 0 m).size = m := by
  rw [ByteArray.size_extract]; omega

set_option maxHeartbeats 4000000 in
theorem rdcrash_any {w : World} {R : Nat} {Z : ByteArray} {j : Nat} (H : RD w R Z j) (hj : j ≤ Z.size) (hlim : Z.size ≤ 140737488355328) (keep : Int) :
    Calls Try.prog 13 #[.pointer (some ⟨R, 0, none⟩), .int .i64 keep] w fun e w' => e = .returned (.tuple #[]) ∧ RD w' R (Z.extract 0 (crashN Z.size j keep)) (crashN Z.size j keep) ∧ Only (· = R) w w' := by
  obtain ⟨c0, c1, z0, z1⟩ := H.cells
  obtain ⟨d, hd⟩ : ∃ d, Z.size = j + d := ⟨Z.size - j, by omega⟩
  obtain ⟨m, hm⟩ : ∃ m, m = crashN Z.size j keep := ⟨_, rfl⟩
  rw [← hm]
  unfold crashN at hm
  have hmle : m ≤ Z.size := by omega
  have hmz : (Z.extract 0 m).size = m := extract_size Z m hmle
  have s1 : IntKind.i64.wrap ((Z.size : Int) - (j : Int)) = (d : Int) := by rw [IntWalk.i64_in _ (by omega)]; omega
  have m0 : (0 : Int) ≤ (m : Int) := by omega
  have m1 : (m : Int) ≤ (Z.size : Int) := by omega
  have W1 : Hid (∀ u q, u = (w.drewN q).drew → RD ((u.setCell ⟨R, 0, none⟩ (.string (Z.extract 0 m))).setCell ⟨R, 1, none⟩ (.int .i64 m)) R (Z.extract 0 m) m ∧ Only (· = R) w ((u.setCell ⟨R, 0, none⟩ (.string (Z.extract 0 m))).setCell ⟨R, 1, none⟩ (.int .i64 m))) := by
    rintro u q rfl
    have h0 : RD (w.drewN q).drew R Z j := H
    exact ⟨(h0.setS _).setJ _, ((Only.drewN (fun x => x = R) w q).drew.trans (Only.set R 0 _ _)).trans (Only.set R 1 _ _)⟩
  have HD := Lib.hid hd
  by_cases h0 : keep < 0
  · obtain rfl : m = j := by omega
    have hlt : keep < (d : Int) := by omega
    have s2 : IntKind.i64.wrap ((m : Int) + 0) = (m : Int) := IntWalk.i64_in _ (by omega)
    clear H hm hj hd
    go_enter Try.func13, Try.ntmps13
    go_upto_region 0 with fail
    go_quiet (fail)
    go_upto_region 3 with fail
    go_region
    go_wp2
    go_end0
    exact ⟨rfl, W1.out _ _ rfl⟩
  · obtain ⟨kn, rfl⟩ : ∃ kn : Nat, keep = (kn : Int) := ⟨keep.toNat, by omega⟩
    by_cases h1 : (kn : Int) < (d : Int)
    · have s2 : IntKind.i64.wrap ((j : Int) + (kn : Int)) = (m : Int) := by rw [IntWalk.i64_in _ (by omega)]; omega
      clear H hm hj hd
      go_enter Try.func13, Try.ntmps13
      go_upto_region 0 with fail
      go_quiet (fail)
      go_upto_region 3 with fail
      go_region
      go_wp2
      go_end0
      exact ⟨rfl, W1.out _ _ rfl⟩
    · have s2 : IntKind.i64.wrap ((j : Int) + (d : Int)) = (m : Int) := by rw [IntWalk.i64_in _ (by omega)]; omega
      clear H hm hj hd
      go_enter Try.func13, Try.ntmps13
      go_upto_region 0 with fail
      go_quiet (fail)
      go_upto_region 3 with fail
      go_region
      go_wp2
      go_end0
      exact ⟨rfl, W1.out _ _ rfl⟩
end Go.Proofs.Ytgbfpabmkjkgnaa
