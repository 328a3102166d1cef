/-
  WHAT CAME IN, part by part: a request, a chain, a reply within a step. No condition.
-/
import Derived.Test.YtpcbpimlakehcaaItemArgs
namespace Go.Proofs.Ytpcbpimlakehcaa
open Go.ChangeShapes Go.WideShapes Go.ChangeAt Go.RowKit

/-- A number that its kind can hold. -/
def Fits64 (x : Int) : Prop := -9223372036854775808 ≤ x ∧ x ≤ 9223372036854775807
theorem fits64_of {x : Int} (h : (Lit.int .i64 x).wf = true) : Fits64 x := by
  simp [Lit.wf, IntKind.min, IntKind.max, IntKind.signed, IntKind.bits] at h
  exact ⟨by omega, by omega⟩
theorem one_int : Try.prog.cellsOf 3 = 1 := by kernel_rfl
theorem one_bool : Try.prog.cellsOf 4 = 1 := by kernel_rfl
theorem one_string : Try.prog.cellsOf 9 = 1 := by kernel_rfl
theorem one_ints : Try.prog.cellsOf 22 = 1 := by kernel_rfl
theorem six_Req : Try.prog.cellsOf 33 = 6 := by kernel_rfl
theorem two_Chain : Try.prog.cellsOf 24 = 2 := by kernel_rfl
theorem four_Reply : Try.prog.cellsOf 64 = 4 := by kernel_rfl
set_option maxRecDepth 100000 in
theorem trod_req {H : Type} {enc : TypeId × Value → H} {w : World} {base : Nat} {spare : Nat → Bool} {held : Bool} {n : Nat} {cs : List Value} {x : DataW H × List MemPlace} (hl : cs.length = 6)
    (h : DataW.trod enc Try.prog w base spare held n 33 cs = some x) :
    ∃ q : ReqV, q.data.size ≤ maxLen ∧ cs = [.int .i64 q.client, .int .i64 q.seq, .int .i64 q.kind, .int .i64 q.id, .int .i64 q.mtch, .string q.data] := by
  obtain ⟨xs, m, _, _, _, hxl, hg⟩ := DataW.trod_struct Try.underlying33 h
  match cs, hl with
  | [x0, x1, x2, x3, x4, x5], _ =>
    match xs, hxl with
    | [y0, y1, y2, y3, y4, y5], _ =>
      have h0 : DataW.trod enc Try.prog w base spare held m 3 [x0] = some y0 := by simpa [one_int] using hg 0 _ rfl
      have h1 : DataW.trod enc Try.prog w base spare held m 3 [x1] = some y1 := by simpa [one_int] using hg 1 _ rfl
      have h2 : DataW.trod enc Try.prog w base spare held m 3 [x2] = some y2 := by simpa [one_int] using hg 2 _ rfl
      have h3 : DataW.trod enc Try.prog w base spare held m 3 [x3] = some y3 := by simpa [one_int] using hg 3 _ rfl
      have h4 : DataW.trod enc Try.prog w base spare held m 3 [x4] = some y4 := by simpa [one_int] using hg 4 _ rfl
      have h5 : DataW.trod enc Try.prog w base spare held m 9 [x5] = some y5 := by simpa [one_string] using hg 5 _ rfl
      obtain ⟨a0, e0, _, _⟩ := DataW.trod_int Try.underlying3 h0
      obtain ⟨a1, e1, _, _⟩ := DataW.trod_int Try.underlying3 h1
      obtain ⟨a2, e2, _, _⟩ := DataW.trod_int Try.underlying3 h2
      obtain ⟨a3, e3, _, _⟩ := DataW.trod_int Try.underlying3 h3
      obtain ⟨a4, e4, _, _⟩ := DataW.trod_int Try.underlying3 h4
      obtain ⟨a5, e5, _, w5⟩ := DataW.trod_string Try.underlying9 h5
      simp only [List.cons.injEq, and_true] at e0 e1 e2 e3 e4 e5
      subst e0 e1 e2 e3 e4 e5
      exact ⟨⟨a0, a1, a2, a3, a4, a5⟩, w5, rfl⟩
theorem trod_ints {H : Type} {enc : TypeId × Value → H} {w : World} {base : Nat} {held : Bool} {n : Nat} {c0 : Value} {x : DataW H × List MemPlace}
    (h : DataW.trod enc Try.prog w base (fun _ => true) held n 22 [c0] = some x) : ∃ L, Ints w w.heap.size c0 L := by
  rcases open_ints Try.underlying22 Try.underlying3 (by kernel_rfl) h with ⟨hcs, _⟩ | ⟨x, l, c, zs, hcs, _, hl, hm, hz, _, hcell, _⟩
  · simp only [List.cons.injEq, and_true] at hcs
    subst hcs
    exact ⟨[], Ints.none _ _⟩
  · simp only [List.cons.injEq, and_true] at hcs
    subst hcs
    obtain ⟨L, _, hI⟩ := ints_row hl hm (by simpa using hz) hcell
    exact ⟨L, hI⟩
set_option maxRecDepth 100000 in
theorem trod_chain {H : Type} {enc : TypeId × Value → H} {w : World} {base : Nat} {held : Bool} {n : Nat} {cs : List Value} {x : DataW H × List MemPlace} (hl : cs.length = 2)
    (h : DataW.trod enc Try.prog w base (fun _ => true) held n 24 cs = some x) :
    ∃ (ep : Int) (v : Value) (L : List Int), (Fits64 ep ∧ Ints w w.heap.size v L) ∧ cs = [.int .i64 ep, v] := by
  obtain ⟨xs, m, _, _, _, hxl, hg⟩ := DataW.trod_struct Try.underlying24 h
  match cs, hl with
  | [x0, x1], _ =>
    match xs, hxl with
    | [y0, y1], _ =>
      have h0 : DataW.trod enc Try.prog w base (fun _ => true) held m 3 [x0] = some y0 := by simpa [one_int, one_ints] using hg 0 _ rfl
      have h1 : DataW.trod enc Try.prog w base (fun _ => true) held m 22 [x1] = some y1 := by simpa [one_int, one_ints] using hg 1 _ rfl
      obtain ⟨a0, e0, _, w0⟩ := DataW.trod_int Try.underlying3 h0
      simp only [List.cons.injEq, and_true] at e0
      subst e0
      obtain ⟨L, hL⟩ := trod_ints h1
      exact ⟨a0, x1, L, ⟨fits64_of w0, hL⟩, rfl⟩
set_option maxRecDepth 100000 in
theorem trod_reply {H : Type} {enc : TypeId × Value → H} {w : World} {base : Nat} {held : Bool} {n : Nat} {cs : List Value} {x : DataW H × List MemPlace} (hl : cs.length = 4)
    (h : DataW.trod enc Try.prog w base (fun _ => true) held n 64 cs = some x) :
    ∃ (c k : Int) (d : ByteArray) (v : Value) (L : List Int), (d.size ≤ maxLen ∧ Ints w w.heap.size v L) ∧ cs = [.int .i64 c, .int .i64 k, .string d, v] := by
  obtain ⟨xs, m, _, _, _, hxl, hg⟩ := DataW.trod_struct Try.underlying64 h
  match cs, hl with
  | [x0, x1, x2, x3], _ =>
    match xs, hxl with
    | [y0, y1, y2, y3], _ =>
      have h0 : DataW.trod enc Try.prog w base (fun _ => true) held m 3 [x0] = some y0 := by simpa [one_int, one_ints, one_string] using hg 0 _ rfl
      have h1 : DataW.trod enc Try.prog w base (fun _ => true) held m 3 [x1] = some y1 := by simpa [one_int, one_ints, one_string] using hg 1 _ rfl
      have h2 : DataW.trod enc Try.prog w base (fun _ => true) held m 9 [x2] = some y2 := by simpa [one_int, one_ints, one_string] using hg 2 _ rfl
      have h3 : DataW.trod enc Try.prog w base (fun _ => true) held m 22 [x3] = some y3 := by simpa [one_int, one_ints, one_string] using hg 3 _ rfl
      obtain ⟨a0, e0, _, _⟩ := DataW.trod_int Try.underlying3 h0
      obtain ⟨a1, e1, _, _⟩ := DataW.trod_int Try.underlying3 h1
      obtain ⟨a2, e2, _, w2⟩ := DataW.trod_string Try.underlying9 h2
      simp only [List.cons.injEq, and_true] at e0 e1 e2
      subst e0 e1 e2
      obtain ⟨L, hL⟩ := trod_ints h3
      exact ⟨a0, a1, a2, x3, L, ⟨w2, hL⟩, rfl⟩
end Go.Proofs.Ytpcbpimlakehcaa
