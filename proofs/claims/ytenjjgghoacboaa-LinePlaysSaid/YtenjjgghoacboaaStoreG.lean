/-
  THE REFERENCE's STORE: its block; Put and Ask where they refuse. No condition but that the request can be read.
-/
import Derived.Test.YtenjjgghoacboaaStoreF
import Derived.Test.YtenjjgghoacboaaChartK
import Derived.Test.YtenjjgghoacboaaChartG
namespace Go.Proofs.Ytenjjgghoacboaa
open Go.RowKit

def layR : Lay := ⟨146, fun c => 34 + c, fun c => 38 + c, fun c => 42 + c * 4, fun c => 42 + c * 4 + 1, fun c => 42 + c * 4 + 2, fun c => 42 + c * 4 + 3, fun i => 2 + i⟩

/-- The cells of client c. -/
theorem sto_clientR {b : Nat} {s : StoV} {w : World} (h : Sto layR w b s) (c : Nat) (hc : c < 4) : ∃ v, Nil0 v ∧ w.cell? ⟨b, 34 + c, none⟩ = some (.int .i64 (s.cl c).seq) ∧ w.cell? ⟨b, 42 + c * 4, none⟩ = some (.int .i64 (s.cl c).code) ∧ w.cell? ⟨b, 42 + c * 4 + 1, none⟩ = some (.int .i64 (s.cl c).ver) ∧
    w.cell? ⟨b, 42 + c * 4 + 2, none⟩ = some (.string (s.cl c).data) ∧ w.cell? ⟨b, 42 + c * 4 + 3, none⟩ = some v ∧ w.cell? ⟨b, 38 + c, none⟩ = some (.int .i64 (s.cl c).place) := by
  obtain ⟨f, hk, ht⟩ := h
  obtain ⟨g1, g2, g3, g4, g5, g6⟩ := ht.2.2.2.1 c hc
  exact ⟨_, g6, g1 ▸ hk.cell (34 + c) (by omega), g3 ▸ hk.cell (42 + c * 4) (by omega), g4 ▸ hk.cell (42 + c * 4 + 1) (by omega), g5 ▸ hk.cell (42 + c * 4 + 2) (by omega), hk.cell (42 + c * 4 + 3) (by omega), g2 ▸ hk.cell (38 + c) (by omega)⟩
theorem sto_resR {b : Nat} {s : StoV} {w : World} (h : Sto layR w b s) (i : Nat) (hi : i < 32) : ∃ ao cap, w.cell? ⟨b, 2 + i, none⟩ = some (.slice ao (s.res i).length cap) ∧ Vers w w.heap.size (.slice ao (s.res i).length cap) (s.res i) := by
  obtain ⟨f, hk, ht⟩ := h
  have hv := ht.2.2.2.2 i hi
  have hc := hk.cell (2 + i) (by omega)
  obtain ⟨ao, cap, he⟩ := hv.shape
  rw [show f (2 + i) = f (layR.res i) from rfl, he] at hc
  rw [he] at hv
  exact ⟨ao, cap, hc, hv⟩

/-- The cells of a new store of the reference's. -/
def newG (q : Int) (k : Nat) : Value :=
  if k = 0 then .int .i64 q else if k = 1 then .int .i64 0 else if k < 34 then .slice none 0 0 else if k < 42 then .int .i64 0 else (if k % 4 = 0 then .string ⟨#[]⟩ else if k % 4 = 1 then .slice none 0 0 else .int .i64 0)
theorem newG_row (q : Int) (row : Array Value) (h : row.toList = (List.range 58).map (newG q)) : row.size = 58 ∧ ∀ k, k < 58 → row[k]? = some (newG q k) := by
  refine ⟨by rw [← Array.length_toList, h]; simp, fun k hk => ?_⟩
  rw [← Array.getElem?_toList, h]
  simp [hk]
theorem newG_tell (q : Int) (w : World) : Tell layR w (newG q) (newV q) := by
  refine ⟨fun k hk x => ?_, rfl, rfl, fun c hc => ?_, fun i hi => ?_⟩
  · unfold newG
    repeat' split
    all_goals simp
  · match c, hc with
    | 0, _ => exact ⟨rfl, rfl, rfl, rfl, rfl, Nil0.none⟩
    | 1, _ => exact ⟨rfl, rfl, rfl, rfl, rfl, Nil0.none⟩
    | 2, _ => exact ⟨rfl, rfl, rfl, rfl, rfl, Nil0.none⟩
    | 3, _ => exact ⟨rfl, rfl, rfl, rfl, rfl, Nil0.none⟩
  · have e : newG q (layR.res i) = .slice none 0 0 := by
      show newG q (2 + i) = _
      unfold newG
      rw [if_neg (by omega), if_neg (by omega), if_pos (by omega)]
    rw [e]
    exact Vers.none _ _

set_option maxRecDepth 100000 in
set_option maxHeartbeats 1000000 in
theorem rput_bad1 (b : Nat) (cl sq kd id mt : Int) (dt : ByteArray) (w : World) (HM : Hid (∀ u, Calls Try.prog 73 #[.agg #[.int .i64 cl, .int .i64 sq, .int .i64 kd, .int .i64 id, .int .i64 mt, .string dt]] u fun e w' => e = .returned (.bool false) ∧ Below u.heap.size u w')) :
    Calls Try.prog 84 #[.pointer (some ⟨b, 0, none⟩), .agg #[.int .i64 cl, .int .i64 sq, .int .i64 kd, .int .i64 id, .int .i64 mt, .string dt]] w (Refused 1 w) := by
  go_enter Try.func84, Try.ntmps84
  go_wp2_with fail
  refine (HM.out _).mono ?_
  rintro e w1 ⟨rfl, B1⟩
  have C1 : Hid (Below w.heap.size w w1) := (((Below.refl _ w).alloc (Nat.le_refl _) _).alloc (by simp) _).trans (B1.mono (by simp; omega))
  have R1 : RepAt w1 (w.heap.size + 1) 0 0 ⟨#[]⟩ (.slice none 0 0) := RepAt.keep (RepAt.new1 w _ 0 0 ⟨#[]⟩ (.slice none 0 0)) B1 (by simp)
  have HE := Lib.hid (rep_stored (c' := 0) (n' := 0) (d' := ⟨#[]⟩) R1 (.slice none 0 0)).cells.1
  have hlt := R1.lt
  obtain ⟨⟨d0, d1, d2, d3⟩, ⟨z0, z1, z2, z3⟩⟩ := R1.cells
  clear B1 R1
  go_wp2
  obtain ⟨e0, e1, e2, e3⟩ := HE.out
  unfold stored at e0 e1 e2 e3
  refine bodyPost_ret (v := .tuple #[.agg #[.int .i64 0, .int .i64 0, .string ⟨#[]⟩, .slice none 0 0], .int .i64 1]) (by simp [results, Try.results84, go_sem, e0, e1, e2, e3]) rfl ⟨rfl, ?_⟩
  exact stored_below C1.out (Nat.le_succ _) _ _ _ _

set_option maxRecDepth 100000 in
set_option maxHeartbeats 1000000 in
theorem rput_bad2 (b : Nat) (cl sq kd id mt : Int) (dt : ByteArray) (w : World) (HM : Hid (∀ u, Calls Try.prog 73 #[.agg #[.int .i64 cl, .int .i64 sq, .int .i64 kd, .int .i64 id, .int .i64 mt, .string dt]] u fun e w' => e = .returned (.bool true) ∧ Below u.heap.size u w'))
    (HW : Hid (∀ u, Calls Try.prog 83 #[.agg #[.int .i64 cl, .int .i64 sq, .int .i64 kd, .int .i64 id, .int .i64 mt, .string dt]] u fun e w' => e = .returned (.bool false) ∧ Below u.heap.size u w')) :
    Calls Try.prog 84 #[.pointer (some ⟨b, 0, none⟩), .agg #[.int .i64 cl, .int .i64 sq, .int .i64 kd, .int .i64 id, .int .i64 mt, .string dt]] w (Refused 1 w) := by
  go_enter Try.func84, Try.ntmps84
  go_wp2_with fail
  refine (HM.out _).mono ?_
  rintro e w1 ⟨rfl, B1⟩
  have C1 : Hid (Below w.heap.size w w1) := (((Below.refl _ w).alloc (Nat.le_refl _) _).alloc (by simp) _).trans (B1.mono (by simp; omega))
  have R1 : Hid (RepAt w1 (w.heap.size + 1) 0 0 ⟨#[]⟩ (.slice none 0 0)) := RepAt.keep (RepAt.new1 w _ 0 0 ⟨#[]⟩ (.slice none 0 0)) B1 (by simp)
  have D1 : Hid (ReqB w1 w.heap.size cl sq kd id mt dt) := ((ReqB.fresh w cl sq kd id mt dt 34).keep ((Below.refl (w.heap.size + 1) _).alloc (by simp) _) (by omega)).keep B1 (by simp; omega)
  clear B1
  obtain ⟨c0, c1, c2, c3, c4, c5⟩ := D1.out.cells
  go_wp2_with fail
  refine (HW.out _).mono ?_
  rintro e w2 ⟨rfl, B2⟩
  have C2 : Hid (Below w.heap.size w w2) := C1.out.trans (B2.mono C1.out.size)
  have R2 := R1.out.keep B2 R1.out.lt
  have HE := Lib.hid (rep_stored (c' := 0) (n' := 0) (d' := ⟨#[]⟩) R2 (.slice none 0 0)).cells.1
  have hlt := R2.lt
  obtain ⟨⟨d0, d1, d2, d3⟩, ⟨z0, z1, z2, z3⟩⟩ := R2.cells
  clear B2 R2 R1 D1 C1 c0 c1 c2 c3 c4 c5
  go_wp2
  obtain ⟨e0, e1, e2, e3⟩ := HE.out
  unfold stored at e0 e1 e2 e3
  refine bodyPost_ret (v := .tuple #[.agg #[.int .i64 0, .int .i64 0, .string ⟨#[]⟩, .slice none 0 0], .int .i64 1]) (by simp [results, Try.results84, go_sem, e0, e1, e2, e3]) rfl ⟨rfl, ?_⟩
  exact stored_below C2.out (Nat.le_succ _) _ _ _ _

end Go.Proofs.Ytenjjgghoacboaa
