/-
  THE LAWS' OWN HELPERS: few, pick, told. Of versions at most a million.
-/
import Derived.Test.YtenjjgghoacboaaChartD
namespace Go.Proofs.Ytenjjgghoacboaa
open Go.RowKit

/-- Does, with the lengths as numbers. -/
def DoesN (L : List VerV) (n : Nat) (l : List Int) (m : Nat) (c r : Int) (d : ByteArray) (w : World) (e : Ending) (w' : World) : Prop :=
  ∃ av ac ao cap, e = .returned (.tuple #[.slice av n ac, .agg #[.int .i64 c, .int .i64 r, .string d, .slice ao m cap]]) ∧ Vers w' w'.heap.size (.slice av n ac) L ∧ Ints w' w'.heap.size (.slice ao m cap) l ∧ Below w.heap.size w w'
def TellsN (l : List Int) (m : Nat) (c r : Int) (d : ByteArray) (w : World) (e : Ending) (w' : World) : Prop :=
  ∃ ao cap, e = .returned (.agg #[.int .i64 c, .int .i64 r, .string d, .slice ao m cap]) ∧ Ints w' w'.heap.size (.slice ao m cap) l ∧ Below w.heap.size w w'
theorem Does.n {L : List VerV} {n : Nat} {l : List Int} {m : Nat} {c r : Int} {d : ByteArray} {w : World} {e : Ending} {w' : World} (h : Does L l c r d w e w') (hn : L.length = n) (hm : l.length = m) : DoesN L n l m c r d w e w' := by
  subst hn hm
  exact h
theorem Tells.n {l : List Int} {m : Nat} {c r : Int} {d : ByteArray} {w : World} {e : Ending} {w' : World} (h : Tells l c r d w e w') (hm : l.length = m) : TellsN l m c r d w e w' := by
  subst hm
  obtain ⟨ao, cap, he, hI, _, hb⟩ := h
  exact ⟨ao, cap, he, hI, hb⟩

theorem do_n (v : Value) (L L' : List VerV) (n : Nat) (B : Nat) (cl sq kd id mt : Int) (dt : ByteArray) (quota c r : Int) (d : ByteArray) (l : List Int) (m : Nat) (HL : Hid (doL L kd mt dt quota = L')) (HR : Hid (doR L kd mt quota = ⟨c, r, d, l⟩)) (hn : L'.length = n) (hm : l.length = m)
    (w : World) (hV : Vers w B v L) (hB : B ≤ w.heap.size) (hl : L.length ≤ 1000000) :
    Calls Try.prog 98 #[v, .agg #[.int .i64 cl, .int .i64 sq, .int .i64 kd, .int .i64 id, .int .i64 mt, .string dt], .int .i64 quota] w (DoesN L' n l m c r d w) :=
  (do_r v L L' B cl sq kd id mt dt quota c r d l HL HR w hV hB hl).mono fun _ _ h => h.n hn hm
theorem ask_n (v : Value) (L : List VerV) (B : Nat) (cl sq kd id mt : Int) (dt : ByteArray) (c r : Int) (d : ByteArray) (l : List Int) (m : Nat) (HR : Hid (askV L kd mt = ⟨c, r, d, l⟩)) (hm : l.length = m) (w : World) (hV : Vers w B v L) (hB : B ≤ w.heap.size) (hl : L.length ≤ 1000000) :
    Calls Try.prog 105 #[v, .agg #[.int .i64 cl, .int .i64 sq, .int .i64 kd, .int .i64 id, .int .i64 mt, .string dt]] w (TellsN l m c r d w) :=
  (ask_r v L B cl sq kd id mt dt c r d l HR w hV hB hl).mono fun _ _ h => h.n hm

def fewV (L : List VerV) (dt : ByteArray) : Prop := L.length ≤ 60 ∧ dt.size ≤ 100 ∧ ∀ x ∈ L, x.data.size ≤ 100
instance (L : List VerV) (dt : ByteArray) : Decidable (fewV L dt) := by unfold fewV; infer_instance

theorem at_mem (L : List VerV) (j : Nat) (h : j < L.length) : at' L j ∈ L := by
  rw [show at' L j = L[j] by simp [at', List.getD, h]]
  exact List.getElem_mem h

def tv1 : List VerV := [⟨false, ⟨#[97]⟩⟩]
def tv2 : List VerV := [⟨false, ⟨#[97]⟩⟩, ⟨true, ⟨#[]⟩⟩]

end Go.Proofs.Ytenjjgghoacboaa
