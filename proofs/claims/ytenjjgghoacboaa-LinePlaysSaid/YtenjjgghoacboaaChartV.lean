/-
  VERSIONS AND REPLIES AS PLAIN DATA; what a request makes of a resource, as plain functions. No condition.
-/
import Derived.Test.YtenjjgghoacboaaReqA
import Derived.Test.YtenjjgghoacboaaPackBase
namespace Go.Proofs.Ytenjjgghoacboaa
open Go.RowKit

structure VerV where
  gone : Bool
  data : ByteArray
deriving DecidableEq
instance : Inhabited VerV := ⟨⟨false, ⟨#[]⟩⟩⟩

/-- The n-th version, from 0 on. -/
def at' (L : List VerV) (j : Nat) : VerV := L.getD j default
def verCells (L : List VerV) : List Value := L.flatMap fun v => [.bool v.gone, .string v.data]

theorem verCells_length (L : List VerV) : (verCells L).length = L.length * 2 := by
  unfold verCells
  induction L with
  | nil => rfl
  | cons v L ih => rw [List.flatMap_cons, List.length_append, ih]; simp; omega
theorem verCells_append (A C : List VerV) : verCells (A ++ C) = verCells A ++ verCells C := by simp [verCells]
theorem verCells_get (L : List VerV) : ∀ j, j < L.length → (verCells L)[j * 2]? = some (.bool (at' L j).gone) ∧ (verCells L)[j * 2 + 1]? = some (.string (at' L j).data) := by
  induction L with
  | nil => intro j hj; simp at hj
  | cons v L ih =>
    intro j hj
    cases j with
    | zero => exact ⟨rfl, rfl⟩
    | succ j =>
      have := ih j (by simpa using hj)
      have e : verCells (v :: L) = [.bool v.gone, .string v.data] ++ verCells L := rfl
      rw [e, show (j + 1) * 2 = j * 2 + 2 by omega, List.getElem?_append_right (by simp), List.getElem?_append_right (by simp)]
      exact this
theorem at_append_left (A C : List VerV) (j : Nat) (h : j < A.length) : at' (A ++ C) j = at' A j := by
  unfold at'
  rw [List.getD_eq_getElem?_getD, List.getElem?_append_left h, ← List.getD_eq_getElem?_getD]
theorem at_last (A : List VerV) (x : VerV) : at' (A ++ [x]) A.length = x := by
  unfold at'
  rw [List.getD_eq_getElem?_getD, List.getElem?_concat_length]
  rfl

/-- The slice value v holds the versions L, in a block below B. -/
def Vers (w : World) (B : Nat) (v : Value) (L : List VerV) : Prop :=
  ∃ ao cap, v = .slice ao L.length cap ∧ L.length ≤ cap ∧ cap ≤ maxLen ∧ (ao = none → cap = 0) ∧
    (L ≠ [] → ∃ b off, ao = some ⟨b, off, none⟩ ∧ b < B ∧ ∀ j, j < L.length → w.cell? ⟨b, off + j * 2, none⟩ = some (.bool (at' L j).gone) ∧ w.cell? ⟨b, off + j * 2 + 1, none⟩ = some (.string (at' L j).data))

theorem Vers.keep {w w' : World} {B : Nat} {v : Value} {L : List VerV} (h : Vers w B v L) (hb : Below B w w') : Vers w' B v L := by
  obtain ⟨ao, cap, rfl, h1, h2, h3, h4⟩ := h
  refine ⟨ao, cap, rfl, h1, h2, h3, fun hl => ?_⟩
  obtain ⟨b, off, rfl, hbB, hc⟩ := h4 hl
  exact ⟨b, off, rfl, hbB, fun j hj => ⟨(hb.cell (p := ⟨b, off + j * 2, none⟩) hbB).trans (hc j hj).1, (hb.cell (p := ⟨b, off + j * 2 + 1, none⟩) hbB).trans (hc j hj).2⟩⟩
theorem Vers.mono {w : World} {B B' : Nat} {v : Value} {L : List VerV} (h : Vers w B v L) (hB : B ≤ B') : Vers w B' v L := by
  obtain ⟨ao, cap, rfl, h1, h2, h3, h4⟩ := h
  refine ⟨ao, cap, rfl, h1, h2, h3, fun hl => ?_⟩
  obtain ⟨b, off, rfl, hbB, hc⟩ := h4 hl
  exact ⟨b, off, rfl, by omega, hc⟩
theorem Vers.on {w w' : World} {v : Value} {L : List VerV} (h : Vers w w.heap.size v L) (hb : Below w.heap.size w w') : Vers w' w'.heap.size v L := (h.keep hb).mono hb.size
theorem Vers.none (w : World) (B : Nat) : Vers w B (.slice none 0 0) [] := ⟨_, _, rfl, Nat.le_refl _, Nat.zero_le _, fun _ => rfl, fun h => absurd rfl h⟩
theorem Vers.shape {w : World} {B : Nat} {v : Value} {L : List VerV} (h : Vers w B v L) : ∃ ao cap, v = .slice ao L.length cap := by
  obtain ⟨ao, cap, rfl, _⟩ := h
  exact ⟨ao, cap, rfl⟩
/-- Where the versions lie, if there are some. -/
theorem Vers.at {w : World} {B : Nat} {ao : Option Addr} {n cap : Nat} {L : List VerV} (h : Vers w B (.slice ao n cap) L) (hL : 0 < L.length) :
    ∃ b off, ao = some ⟨b, off, Option.none⟩ ∧ b < B ∧ ∀ j, j < L.length → w.cell? ⟨b, off + j * 2, Option.none⟩ = some (.bool (at' L j).gone) ∧ w.cell? ⟨b, off + j * 2 + 1, Option.none⟩ = some (.string (at' L j).data) := by
  obtain ⟨ao', cap', he, h1, h2, h3, h4⟩ := h
  simp only [Value.slice.injEq] at he
  obtain ⟨rfl, rfl, rfl⟩ := he
  exact h4 (by intro e; rw [e] at hL; simp at hL)
theorem Vers.len {w : World} {B : Nat} {ao : Option Addr} {n cap : Nat} {L : List VerV} (h : Vers w B (.slice ao n cap) L) : n = L.length ∧ n ≤ cap ∧ cap ≤ maxLen := by
  obtain ⟨ao', cap', he, h1, h2, h3, h4⟩ := h
  simp only [Value.slice.injEq] at he
  obtain ⟨rfl, rfl, rfl⟩ := he
  exact ⟨rfl, h1, h2⟩

theorem info_Version : (Try.prog.info? 121).map (fun i => (i.zero, i.size, i.bytes)) = some (some (.agg #[.bool false, .string ⟨#[]⟩]), 2, 24) := by kernel_rfl

theorem vers_own {w : World} {base B : Nat} {v : Value} {n : Nat} {L : List VerV} (h : w.ownsRow base 121 2 v n (verCells L)) (hB : w.heap.size ≤ B) : Vers w B v L := by
  have hn : L.length = n := by have := h.1; rw [verCells_length] at this; omega
  subst hn
  rcases h.2 with ⟨rfl, h0⟩ | ⟨g, cap, cur, rfl, hg, hh, hle, hmax, hsz, htake⟩
  · have : L = [] := List.eq_nil_of_length_eq_zero (by simpa using h0)
    subst this
    exact Vers.none _ _
  · refine ⟨some ⟨g, 0, Option.none⟩, cap, rfl, hle, hmax, fun h => (by cases h), fun _ => ⟨g, 0, rfl, by have := lt_of_block hh; omega, fun j hj => ?_⟩⟩
    have hx := verCells_get L j hj
    have h1 := h.cells (g := g) rfl _ _ hx.1
    have h2 := h.cells (g := g) rfl _ _ hx.2
    rw [Addr.add_lit] at h1 h2
    exact ⟨h1, by rw [Nat.add_assoc]; exact h2⟩

theorem mem_verCells {L : List VerV} {u : Value} (h : u ∈ verCells L) : (∃ b, u = .bool b) ∨ ∃ s, u = .string s := by
  obtain ⟨v, _, hu⟩ := List.mem_flatMap.1 h
  simp only [List.mem_cons, List.not_mem_nil, or_false] at hu
  rcases hu with rfl | rfl
  · exact .inl ⟨_, rfl⟩
  · exact .inr ⟨_, rfl⟩

theorem src_vers {w : World} {B : Nat} {v : Value} {L : List VerV} (h : Vers w B v L) : Src Try.prog 2 112 v L.length (verCells L) w := by
  obtain ⟨ao, cap, rfl, h1, h2, h3, h4⟩ := h
  by_cases hl : L = []
  · subst hl
    cases ao with
    | none => rw [h3 rfl]; exact Src.ofNil _ Try.underlying112 0
    | some a => exact Src.ofSlice _ Try.underlying112 a 0 cap [] rfl (by intro j u hj; simp at hj) (by intro u hu; cases hu)
  · obtain ⟨b, off, rfl, _, hc⟩ := h4 hl
    refine Src.ofSlice _ Try.underlying112 ⟨b, off, none⟩ L.length cap (verCells L) (verCells_length L) ?_ ?_
    · intro j u hu
      have hj : j < L.length * 2 := by have := (List.getElem?_eq_some_iff.1 hu).1; rwa [verCells_length] at this
      have hq := hc (j / 2) (by omega)
      have hx := verCells_get L (j / 2) (by omega)
      rw [Addr.add_lit]
      rcases (show j = j / 2 * 2 ∨ j = j / 2 * 2 + 1 by omega) with e | e
      · rw [e] at hu ⊢
        rw [hx.1] at hu
        rw [← hu]; exact hq.1
      · rw [e] at hu ⊢
        rw [hx.2] at hu
        rw [← hu, ← Nat.add_assoc]; exact hq.2
    · intro u hu
      rcases mem_verCells hu with ⟨_, rfl⟩ | ⟨_, rfl⟩ <;> rfl

/-- A reply. -/
structure RepV where
  code : Int
  ver : Int
  data : ByteArray
  list : List Int

def rdV (L : List VerV) (n : Int) : RepV :=
  if n < 1 ∨ (L.length : Int) < n then ⟨2, 0, ⟨#[]⟩, []⟩
  else if (at' L (n - 1).toNat).gone then ⟨3, n, ⟨#[]⟩, []⟩ else ⟨1, n, (at' L (n - 1).toNat).data, []⟩
def sign (L : List VerV) (i : Nat) : Int := if (at' L i).gone then -((i : Int) + 1) else (i : Int) + 1
def signs (L : List VerV) (k : Nat) : List Int := (List.range k).map (sign L)
def histV (L : List VerV) : RepV := if L.length = 0 then ⟨2, 0, ⟨#[]⟩, []⟩ else ⟨1, L.length, ⟨#[]⟩, signs L L.length⟩
def askV (L : List VerV) (kd mt : Int) : RepV := if kd = 4 then rdV L L.length else if kd = 5 then rdV L mt else if kd = 6 then histV L else ⟨0, 0, ⟨#[]⟩, []⟩
def wrV (kd : Int) : Bool := kd == 1 || kd == 2 || kd == 3
def verdV (L : List VerV) (kd mt quota : Int) : Int :=
  if kd = 1 ∧ (rdV L L.length).code = 1 then 4
  else if kd ≠ 1 ∧ (rdV L L.length).code ≠ 1 then (rdV L L.length).code
  else if mt ≠ 0 ∧ mt ≠ L.length then 5
  else if quota ≤ L.length then 6 else 1
def makeV (kd : Int) (dt : ByteArray) : VerV := if kd = 3 then ⟨true, ⟨#[]⟩⟩ else ⟨false, dt⟩
def doL (L : List VerV) (kd mt : Int) (dt : ByteArray) (quota : Int) : List VerV := if wrV kd = true ∧ verdV L kd mt quota = 1 then L ++ [makeV kd dt] else L
def doR (L : List VerV) (kd mt quota : Int) : RepV :=
  if wrV kd = true then (if verdV L kd mt quota = 1 then ⟨1, L.length + 1, ⟨#[]⟩, []⟩ else ⟨verdV L kd mt quota, L.length, ⟨#[]⟩, []⟩) else askV L kd mt

theorem signs_succ (L : List VerV) (k : Nat) : signs L (k + 1) = signs L k ++ [sign L k] := by simp [signs, List.range_succ]
theorem signs_length (L : List VerV) (k : Nat) : (signs L k).length = k := by simp [signs]
theorem rdV_list (L : List VerV) (n : Int) : (rdV L n).list = [] := by
  unfold rdV
  repeat' split
  all_goals rfl
theorem doL_length (L : List VerV) (kd mt : Int) (dt : ByteArray) (quota : Int) : (doL L kd mt dt quota).length ≤ L.length + 1 := by
  unfold doL; split <;> simp
end Go.Proofs.Ytenjjgghoacboaa
