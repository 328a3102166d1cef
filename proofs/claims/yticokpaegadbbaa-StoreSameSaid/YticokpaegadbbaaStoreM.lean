/-
  THE PROGRAM's STORE: Ask as one contract. No condition but that the store is within its bounds.
-/
import Derived.Test.YticokpaegadbbaaStoreT
import Derived.Test.YticokpaegadbbaaStoreK
namespace Go.Proofs.Yticokpaegadbbaa
open Go.RowKit

/-- A request that may be and does not write. -/
def ReqV.asks (q : ReqV) : Prop := q.may ∧ 3 < q.kind
instance (q : ReqV) : Decidable q.asks := by unfold ReqV.asks; infer_instance
structure AskA where
  r : RepV
  err : Int
def askA (s : StoV) (q : ReqV) : AskA := if q.asks then ⟨askV (s.res q.id.toNat) q.kind q.mtch, 0⟩ else ⟨⟨0, 0, ⟨#[]⟩, []⟩, 1⟩
/-- Behind an Ask. -/
def AskR (l : List Int) (m : Nat) (c r : Int) (d : ByteArray) (x : Int) (w : World) (e : Ending) (w' : World) : Prop :=
  ∃ ao cap, e = .returned (.tuple #[.agg #[.int .i64 c, .int .i64 r, .string d, .slice ao m cap], .int .i64 x]) ∧ Ints w' w'.heap.size (.slice ao m cap) l ∧ Below w.heap.size w w'
theorem Refused.ask {w : World} {e : Ending} {w' : World} {x : Int} (h : Refused x w e w') : AskR [] 0 0 0 ⟨#[]⟩ x w e w' := ⟨none, 0, h.1, Ints.none _ _, h.2⟩

theorem askV_list (L : List VerV) (kd mt : Int) : (askV L kd mt).list.length ≤ L.length := by
  unfold askV
  split
  · rw [rdV_list]; exact Nat.zero_le _
  split
  · rw [rdV_list]; exact Nat.zero_le _
  split
  · unfold histV
    split
    · exact Nat.zero_le _
    · show (signs L L.length).length ≤ _; rw [signs_length]; exact Nat.le_refl _
  · exact Nat.zero_le _

theorem sask_r (b : Nat) (s : StoV) (N : Nat) (cl sq kd id mt : Int) (dt : ByteArray) (c r : Int) (d : ByteArray) (l : List Int) (m : Nat) (x : Int) (HA : Hid (askA s ⟨cl, sq, kd, id, mt, dt⟩ = ⟨⟨c, r, d, l⟩, x⟩)) (hlm : l.length = m) (hd : dt.size ≤ maxLen) (hf : Fit s N) (w : World) (h : Sto layP w b s) :
    Calls Try.prog 17 #[.pointer (some ⟨b, 0, none⟩), .agg #[.int .i64 cl, .int .i64 sq, .int .i64 kd, .int .i64 id, .int .i64 mt, .string dt]] w (AskR l m c r d x w) := by
  have hd' : dt.size ≤ 9223372036854775807 := by unfold maxLen at hd; omega
  have HA' := HA.out
  unfold askA at HA'
  by_cases hm : ReqV.may ⟨cl, sq, kd, id, mt, dt⟩
  · have HM : Hid (∀ u, Calls Try.prog 29 #[.agg #[.int .i64 cl, .int .i64 sq, .int .i64 kd, .int .i64 id, .int .i64 mt, .string dt]] u fun e w' => e = .returned (.bool true) ∧ Below u.heap.size u w') :=
      fun u => mayreq_r cl sq kd id mt dt hd' true (decide_eq_true hm).symm u
    have hm' := hm
    unfold ReqV.may at hm'
    simp only at hm'
    by_cases hw : 3 < kd
    · rw [if_pos ⟨hm, hw⟩] at HA'
      obtain ⟨ha, rfl⟩ := AskA.mk.inj HA'
      have HW : Hid (∀ u, Calls Try.prog 30 #[.agg #[.int .i64 cl, .int .i64 sq, .int .i64 kd, .int .i64 id, .int .i64 mt, .string dt]] u fun e w' => e = .returned (.bool false) ∧ Below u.heap.size u w') := by
        intro u
        have h := writes_any cl sq kd id mt dt u
        rwa [decide_eq_false (show ¬ (1 ≤ kd ∧ kd ≤ 3) by omega)] at h
      obtain ⟨i, rfl⟩ : ∃ i : Nat, id = i := ⟨id.toNat, by omega⟩
      have hi : i < 32 := by omega
      simp only [Int.toNat_natCast] at ha
      obtain ⟨ar, cr, hcr, hvr⟩ := sto_res h i hi
      exact sask_done b i (s.res i) cl sq kd mt dt l m c r d w hi h.lt hlm ar _ cr hcr hvr HM HW (fun u => key_r cl sq kd i mt dt hd' i (show _ = _ from (if_pos hm).symm) u)
        (fun u v hv => ask_r v (s.res i) _ cl sq kd i mt dt c r d l (show _ = _ from ha) u hv (Nat.le_refl _) (by have := (hf.res i hi).1; omega))
    · rw [if_neg (fun h => hw h.2)] at HA'
      obtain ⟨ha, rfl⟩ := AskA.mk.inj HA'
      obtain ⟨rfl, rfl, rfl, rfl⟩ := RepV.mk.inj ha
      subst hlm
      have HW : Hid (∀ u, Calls Try.prog 30 #[.agg #[.int .i64 cl, .int .i64 sq, .int .i64 kd, .int .i64 id, .int .i64 mt, .string dt]] u fun e w' => e = .returned (.bool true) ∧ Below u.heap.size u w') := by
        intro u
        have h := writes_any cl sq kd id mt dt u
        rwa [decide_eq_true (show 1 ≤ kd ∧ kd ≤ 3 by omega)] at h
      exact (sask_bad2 b cl sq kd id mt dt w HM HW).mono fun _ _ h => h.ask
  · rw [if_neg (fun h => hm h.1)] at HA'
    obtain ⟨ha, rfl⟩ := AskA.mk.inj HA'
    obtain ⟨rfl, rfl, rfl, rfl⟩ := RepV.mk.inj ha
    subst hlm
    have HM : Hid (∀ u, Calls Try.prog 29 #[.agg #[.int .i64 cl, .int .i64 sq, .int .i64 kd, .int .i64 id, .int .i64 mt, .string dt]] u fun e w' => e = .returned (.bool false) ∧ Below u.heap.size u w') :=
      fun u => mayreq_r cl sq kd id mt dt hd' false (decide_eq_false hm).symm u
    exact (sask_bad1 b cl sq kd id mt dt w HM).mono fun _ _ h => h.ask
end Go.Proofs.Yticokpaegadbbaa
