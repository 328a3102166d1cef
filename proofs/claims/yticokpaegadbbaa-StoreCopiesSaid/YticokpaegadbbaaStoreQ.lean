/-
  WHAT A REQUEST THAT IS TAKEN MAKES OF A STORE's BLOCK. No condition.
-/
import Derived.Test.YticokpaegadbbaaStoreN
namespace Go.Proofs.Yticokpaegadbbaa
open Go.RowKit

theorem RepAt.nobool {w : World} {R : Nat} {c n : Int} {d : ByteArray} {v : Value} (h : RepAt w R c n d v) (hv : ∀ x, v ≠ .bool x) : NoBool w R := by
  intro o x hx
  have h' : w.heap[R]? = some (.cells #[.int .i64 c, .int .i64 n, .string d, v] 34 (0, 0)) := h
  simp only [World.cell?, h'] at hx
  match o, hx with
  | 0, hx => simp at hx
  | 1, hx => simp at hx
  | 2, hx => simp at hx
  | 3, hx => simp at hx; exact hv x hx
  | o + 4, hx => simp at hx
theorem stored_besides (w : World) (R : Nat) (c n : Int) (d : ByteArray) (v : Value) : Besides R w (stored w R c n d v) :=
  (((Besides.setCell R 0 _ _).trans (Besides.setCell R 1 _ _)).trans (Besides.setCell R 2 _ _)).trans (Besides.setCell R 3 _ _)
theorem ReqB.besides {w w' : World} {R b : Nat} {cl sq kd id mt : Int} {dt : ByteArray} (h : ReqB w b cl sq kd id mt dt) (hb : Besides R w w') (hne : b ≠ R) : ReqB w' b cl sq kd id mt dt := by
  obtain ⟨e, h⟩ := h
  exact ⟨e, (hb.block b (lt_of_block h) hne).trans h⟩
theorem RepAt.besides {w w' : World} {R b : Nat} {c n : Int} {d : ByteArray} {v : Value} (h : RepAt w b c n d v) (hb : Besides R w w') (hne : b ≠ R) : RepAt w' b c n d v := (hb.block b h.lt hne).trans h

theorem Blk.drew {w : World} {b : Nat} {t : TypeId} {n : Nat} {f : Nat → Value} (h : Blk w b t n f) : Blk w.drew b t n f := h
theorem Besides.drew {b : Nat} {w w' : World} (h : Besides b w w') : Besides b w w'.drew := ⟨h.os, h.tape, h.output, h.size, h.block⟩
/-- The cells behind a request that is taken. -/
def putF (f : Nat → Value) (i o : Nat) (v : Value) (n sq cd vr : Int) (d : ByteArray) (l : Value) : Nat → Value :=
  updF (updF (updF (updF (updF (updF (updF (updF f (26 + i) v) 1 (.int .i64 n)) o (.int .i64 sq)) (o + 1) (.int .i64 cd)) (o + 2) (.int .i64 vr)) (o + 3) (.string d)) (o + 4) l) (o + 5) (.int .i64 n)
theorem tell_put {w : World} {f : Nat → Value} {s : StoV} (ht : Tell layP w f s) {c i : Nat} (hc : c < 4) (hi : i < 32) {v : Value} {L' : List VerV} (hv : Vers w w.heap.size v L') (sq cd vr : Int) (d : ByteArray) {l : Value} (hl : Nil0 l) :
    Tell layP w (putF f i (2 + c * 6) v (s.places + 1) sq cd vr d l) { s with places := s.places + 1, cl := updF s.cl c ⟨sq, cd, vr, d, s.places + 1⟩, res := updF s.res i L' } := by
  have hne : ∀ x, v ≠ .bool x := by obtain ⟨_, _, rfl, _⟩ := hv; intro x h; cases h
  have hnl : ∀ x, l ≠ .bool x := by obtain ⟨_, _, rfl, _⟩ := hl; intro x h; cases h
  have at_ : ∀ k, putF f i (2 + c * 6) v (s.places + 1) sq cd vr d l k = if k = 2 + c * 6 + 5 then .int .i64 (s.places + 1) else if k = 2 + c * 6 + 4 then l else if k = 2 + c * 6 + 3 then .string d else if k = 2 + c * 6 + 2 then .int .i64 vr else if k = 2 + c * 6 + 1 then .int .i64 cd else if k = 2 + c * 6 then .int .i64 sq else if k = 1 then .int .i64 (s.places + 1) else if k = 26 + i then v else f k := fun k => rfl
  refine ⟨fun k hk x => ?_, ?_, ?_, fun c' hc' => ?_, fun i' hi' => ?_⟩
  · rw [at_]
    repeat' split
    all_goals first | exact hne x | exact hnl x | exact ht.1 k hk x | (intro h; cases h)
  · rw [at_, if_neg (by omega), if_neg (by omega), if_neg (by omega), if_neg (by omega), if_neg (by omega), if_neg (by omega), if_neg (by omega), if_neg (by omega)]
    exact ht.2.1
  · rw [at_, if_neg (by omega), if_neg (by omega), if_neg (by omega), if_neg (by omega), if_neg (by omega), if_neg (by omega), if_pos rfl]
  · show putF _ _ _ _ _ _ _ _ _ _ (2 + c' * 6) = _ ∧ putF _ _ _ _ _ _ _ _ _ _ (2 + c' * 6 + 5) = _ ∧ putF _ _ _ _ _ _ _ _ _ _ (2 + c' * 6 + 1) = _ ∧ putF _ _ _ _ _ _ _ _ _ _ (2 + c' * 6 + 2) = _ ∧ putF _ _ _ _ _ _ _ _ _ _ (2 + c' * 6 + 3) = _ ∧ Nil0 (putF _ _ _ _ _ _ _ _ _ _ (2 + c' * 6 + 4))
    dsimp only
    by_cases e : c' = c
    · subst e
      rw [show (updF s.cl c' ⟨sq, cd, vr, d, s.places + 1⟩ c') = ⟨sq, cd, vr, d, s.places + 1⟩ from updF_same _ _ _]
      refine ⟨?_, ?_, ?_, ?_, ?_, ?_⟩
      · rw [at_, if_neg (by omega), if_neg (by omega), if_neg (by omega), if_neg (by omega), if_neg (by omega), if_pos rfl]
      · rw [at_, if_pos rfl]
      · rw [at_, if_neg (by omega), if_neg (by omega), if_neg (by omega), if_neg (by omega), if_pos rfl]
      · rw [at_, if_neg (by omega), if_neg (by omega), if_neg (by omega), if_pos rfl]
      · rw [at_, if_neg (by omega), if_neg (by omega), if_pos rfl]
      · rw [at_, if_neg (by omega), if_pos rfl]; exact hl
    · have far : ∀ j, j < 6 → putF f i (2 + c * 6) v (s.places + 1) sq cd vr d l (2 + c' * 6 + j) = f (2 + c' * 6 + j) := fun j hj => by
        rw [at_, if_neg (by omega), if_neg (by omega), if_neg (by omega), if_neg (by omega), if_neg (by omega), if_neg (by omega), if_neg (by omega), if_neg (by omega)]
      rw [show (updF s.cl c ⟨sq, cd, vr, d, s.places + 1⟩ c') = s.cl c' from updF_other _ _ _ _ e]
      have h := ht.2.2.2.1 c' hc'
      exact ⟨(far 0 (by omega)).trans h.1, (far 5 (by omega)).trans h.2.1, (far 1 (by omega)).trans h.2.2.1, (far 2 (by omega)).trans h.2.2.2.1, (far 3 (by omega)).trans h.2.2.2.2.1, (far 4 (by omega)) ▸ h.2.2.2.2.2⟩
  · show Vers w w.heap.size (putF _ _ _ _ _ _ _ _ _ _ (26 + i')) (updF s.res i L' i')
    by_cases e : i' = i
    · subst e
      rw [updF_same, at_, if_neg (by omega), if_neg (by omega), if_neg (by omega), if_neg (by omega), if_neg (by omega), if_neg (by omega), if_neg (by omega), if_pos rfl]
      exact hv
    · rw [updF_other _ _ _ _ e, at_, if_neg (by omega), if_neg (by omega), if_neg (by omega), if_neg (by omega), if_neg (by omega), if_neg (by omega), if_neg (by omega), if_neg (by omega)]
      exact ht.2.2.2.2 i' hi'

theorem Besides.stored {b T : Nat} {w u : World} (h : Besides b w u) (hT : w.heap.size ≤ T) (c n : Int) (d : ByteArray) (v : Value) : Besides b w (stored u T c n d v) := by
  have k := stored_besides u T c n d v
  exact ⟨k.os.trans h.os, k.tape.trans h.tape, k.output.trans h.output, Nat.le_trans h.size k.size, fun i hi hn => (k.block i (Nat.lt_of_lt_of_le hi h.size) (by omega)).trans (h.block i hi hn)⟩

end Go.Proofs.Yticokpaegadbbaa
