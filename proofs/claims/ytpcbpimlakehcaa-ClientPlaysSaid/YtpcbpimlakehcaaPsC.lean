/-
  A ROW OF INTS by its block's type; slices.Clone of ints, by contract. Of at most a million ints.
-/
import Derived.Test.YtpcbpimlakehcaaItemC
import Derived.Test.YtpcbpimlakehcaaDiskV
import Derived.BigQuiet
namespace Go.Proofs.Ytpcbpimlakehcaa
open Go.RowKit

/-- The slice value v holds the ints L, in a block of ints (by its type). -/
def RowI (w : World) (v : Value) (L : List Int) : Prop :=
  ∃ ao cap, v = .slice ao L.length cap ∧ L.length ≤ cap ∧ cap ≤ maxLen ∧ (ao = none → cap = 0) ∧
    (L ≠ [] → ∃ b off cs, ao = some ⟨b, off, none⟩ ∧ w.heap[b]? = some (.cells cs 3 (0, 0)) ∧ ∀ j, j < L.length → w.cell? ⟨b, off + j, none⟩ = some (.int .i64 (L.getD j 0)))
theorem RowI.none (w : World) : RowI w (.slice none 0 0) [] := ⟨_, _, rfl, Nat.le_refl _, Nat.zero_le _, fun _ => rfl, fun h => absurd rfl h⟩
theorem RowI.ints {w : World} {v : Value} {L : List Int} (h : RowI w v L) : Ints w w.heap.size v L := by
  obtain ⟨ao, cap, rfl, h1, h2, h3, h4⟩ := h
  refine ⟨ao, cap, rfl, h1, h2, h3, fun hl => ?_⟩
  obtain ⟨b, off, cs, rfl, hb, hc⟩ := h4 hl
  exact ⟨b, off, rfl, lt_of_block hb, hc⟩
theorem RowI.own {w : World} {base : Nat} {v : Value} {n : Nat} {L : List Int} (h : w.ownsRow base 3 1 v n (intCells L)) : RowI w v L := by
  have hn : L.length = n := by have := h.1; simp [intCells] at this; omega
  subst hn
  rcases h.2 with ⟨rfl, h0⟩ | ⟨g, cap, cur, rfl, hg, hh, hle, hmax, hsz, htake⟩
  · have : L = [] := List.eq_nil_of_length_eq_zero (by simpa using h0)
    subst this
    exact RowI.none _
  · refine ⟨some ⟨g, 0, Option.none⟩, cap, rfl, hle, hmax, fun h => (by cases h), fun _ => ⟨g, 0, cur, rfl, hh, fun j hj => ?_⟩⟩
    have hx : (intCells L)[j]? = some (.int .i64 (L.getD j 0)) := by simp [intCells, hj]
    have := h.cells (g := g) rfl j _ hx
    rwa [Addr.add_lit] at this
theorem RowI.keep {S : Nat → Prop} {w w' : World} {v : Value} {L : List Int} (h : RowI w v L) (ho : Only S w w') (hs : ∀ b cs, w.heap[b]? = some (.cells cs 3 (0, 0)) → ¬ S b) : RowI w' v L := by
  obtain ⟨ao, cap, rfl, h1, h2, h3, h4⟩ := h
  refine ⟨ao, cap, rfl, h1, h2, h3, fun hl => ?_⟩
  obtain ⟨b, off, cs, rfl, hb, hc⟩ := h4 hl
  have e := ho.block b (lt_of_block hb) (hs b cs hb)
  exact ⟨b, off, cs, rfl, e.trans hb, fun j hj => (World.cell?_of_block (a := ⟨b, off + j, Option.none⟩) e).trans (hc j hj)⟩
theorem RowI.on {w w' : World} {v : Value} {L : List Int} (h : RowI w v L) (hb : Below w.heap.size w w') : RowI w' v L := h.keep (S := fun _ => False) (.of hb) (fun _ _ _ h => h)
/-- A block that holds no row of ints (by its type) is written: the row stands. -/
theorem RowI.beside {w w' : World} {v : Value} {L : List Int} (h : RowI w v L) {p : Nat} {cs : Array Value} {T : TypeId} (hp : w.heap[p]? = some (.cells cs T (0, 0))) (hT : T ≠ 3) (ho : Only (· = p) w w') : RowI w' v L :=
  h.keep ho fun b cs' hb e => by
    subst e
    rw [hp] at hb
    simp only [Option.some.injEq, Obj.cells.injEq] at hb
    exact hT hb.2.1
theorem RowI.shape {w : World} {v : Value} {L : List Int} (h : RowI w v L) : ∃ a c, v = .slice a L.length c := by
  obtain ⟨ao, cap, rfl, _⟩ := h
  exact ⟨_, _, rfl⟩

theorem pinfo_int : (Try.prog.info? 3).map (fun i => (i.zero, i.size, i.bytes)) = some (some (.int .i64 0), 1, 8) := by kernel_rfl
theorem pcsrc {w : World} {B : Nat} {v : Value} {L : List Int} (h : Ints w B v L) : Src Try.prog 1 22 v L.length (intCells L) w := by
  obtain ⟨ao, cap, rfl, h1, h2, h3, h4⟩ := h
  by_cases hl : L = []
  · subst hl
    cases ao with
    | none => rw [h3 rfl]; exact Src.ofNil _ Try.underlying22 0
    | some a => exact Src.ofSlice _ Try.underlying22 a 0 cap [] rfl (by intro j u hj; simp at hj) (by intro u hu; cases hu)
  · obtain ⟨b, off, rfl, _, hc⟩ := h4 hl
    refine Src.ofSlice _ Try.underlying22 ⟨b, off, none⟩ L.length cap (intCells L) (by simp [intCells]) ?_ ?_
    · intro j u hj
      have hjl : j < L.length := by
        have := (List.getElem?_eq_some_iff.1 hj).1
        simpa [intCells] using this
      rw [Addr.add_lit, hc j hjl, ← hj]
      simp [intCells, List.getD, hjl]
    · intro u hu
      simp only [intCells, List.mem_map] at hu
      obtain ⟨x, _, rfl⟩ := hu
      rfl
/-- What Clone of ints tells. -/
def CloneR (L : List Int) (w : World) (e : Ending) (w' : World) : Prop := ∃ v', e = .returned v' ∧ w'.ownsRow w.heap.size 3 1 v' L.length (intCells L) ∧ Below w.heap.size w w'
set_option maxHeartbeats 1000000 in
theorem pclone_r (ao : Option Addr) (m cp : Nat) (L : List Int) (B : Nat) (w : World) (hI : Ints w B (.slice ao m cp) L) (hB : B ≤ w.heap.size) (hlim : L.length ≤ 1000000) :
    Calls Try.prog 58 #[.slice ao m cp] w (CloneR L w) := by
  obtain ⟨i0, hi, hz0, hz1, hz2⟩ := info_parts pinfo_int
  have q22 : ∀ (w : World) (a : Option Addr) (n c n' c' : Nat), (binOp .eql 22 (.slice a n c) (.slice none n' c')).run Try.prog w = .ok (.bool a.isNone) w := fun w a n c n' c' => Lib.run_eql_slice_nil w _ _ a n c n' c' Try.underlying22
  have hn : m = L.length := by obtain ⟨ao', cap', he, _⟩ := hI; simp only [Value.slice.injEq] at he; exact he.2.1
  cases ao with
  | none =>
    have hL : L = [] := by
      obtain ⟨ao', cap', he, _, _, _, h4⟩ := hI
      simp only [Value.slice.injEq] at he
      obtain ⟨rfl, _, _⟩ := he
      by_cases h : L = []
      · exact h
      · obtain ⟨_, _, h', _⟩ := h4 h
        cases h'
    subst hL
    clear hI hn
    go_enter Try.func58, Try.ntmps58
    go_wp2
    go_returns
    exact ⟨.slice none 0 0, rfl, World.ownsRow_nil _ _ _ _, Below.refl _ _⟩
  | some a =>
    have HS := Lib.hid (pcsrc (hI.keep (((Below.refl _ _).alloc (Nat.le_refl _) (.cells #[] 3)).mono hB)))
    rw [← hn] at HS hlim
    have HNN := Lib.hid hn
    clear hI hn
    go_enter Try.func58, Try.ntmps58
    go_wp2_with (at_builtin; refine wpList_append_own_src rfl (.tmp 5) (.tmp 6) 22 22 rfl w.heap.size 3 i0 (.int .i64 0) 1 8 Try.underlying22 hi hz0 hz1 hz2 rfl _ _ _ rfl (World.ownsRow_made w #[] 0 (Nat.le_refl _) (Nat.zero_le _) rfl) _ m (intCells L) rfl HS.out ?c3 ?c4 ?c5 ?_)
    case c3 => unfold maxLen; omega
    case c4 => omega
    case c5 => simp
    intro v' w1 hown hgrow
    go_wp2
    go_returns
    refine ⟨v', rfl, ?_, ?_⟩
    · rw [← HNN.out]; simpa using hown
    · exact ((Below.refl _ w).alloc (Nat.le_refl _) _).grown hgrow (by simp) (by intro k hk; simp [Value.ownBlock] at hk; omega)
/-- Cells stored one behind the other. -/
def storedL (W : World) (R : Nat) : Nat → List Value → World
  | _, [] => W
  | o, v :: vs => storedL (W.setCell ⟨R, o, none⟩ v) R (o + 1) vs
def setL (cs : Array Value) : Nat → List Value → Array Value
  | _, [] => cs
  | o, v :: vs => setL (cs.setIfInBounds o v) (o + 1) vs
theorem storedL_heap {R : Nat} {T : TypeId} : ∀ (vs : List Value) (o : Nat) (W : World) (cs : Array Value), W.heap[R]? = some (.cells cs T (0, 0)) → (storedL W R o vs).heap[R]? = some (.cells (setL cs o vs) T (0, 0))
  | [], _, _, _, h => h
  | v :: vs, o, W, cs, h => storedL_heap vs (o + 1) _ _ (by rw [heap_setCell_same _ _ _ _ _ _ h])
theorem storedL_only {R : Nat} : ∀ (vs : List Value) (o : Nat) (W : World), Only (· = R) W (storedL W R o vs)
  | [], _, _ => Only.refl _ _
  | v :: vs, o, W => (Only.set R o W v).trans (storedL_only vs (o + 1) _)
end Go.Proofs.Ytpcbpimlakehcaa
