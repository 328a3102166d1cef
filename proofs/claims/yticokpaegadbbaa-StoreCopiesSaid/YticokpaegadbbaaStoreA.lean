/-
  THE PROGRAM's STORE: Len, Seq, Last, Versions: what they tell of a store and of none.
-/
import Derived.Test.YticokpaegadbbaaStoreV
import Derived.BigRegion
namespace Go.Proofs.Yticokpaegadbbaa
open Go.RowKit

def layP : Lay := ⟨67, fun c => 2 + c * 6, fun c => 2 + c * 6 + 5, fun c => 2 + c * 6 + 1, fun c => 2 + c * 6 + 2, fun c => 2 + c * 6 + 3, fun c => 2 + c * 6 + 4, fun i => 26 + i⟩

set_option maxHeartbeats 400000 in
theorem slen_r (b : Nat) (s : StoV) (w : World) (h : Sto layP w b s) : Calls Try.prog 21 #[.pointer (some ⟨b, 0, none⟩)] w fun e w' => e = .returned (.int .i64 s.places) ∧ w = w' := by
  obtain ⟨f, hk, ht⟩ := h
  have c1 := hk.cell 1 (by decide)
  rw [ht.2.2.1] at c1
  clear ht hk
  go_enter Try.func21, Try.ntmps21
  go_wp2
  go_returns
  exact ⟨rfl, rfl⟩
set_option maxHeartbeats 400000 in
theorem slen_nil (w : World) : Calls Try.prog 21 #[.pointer none] w fun e w' => e = .returned (.int .i64 0) ∧ w = w' := by
  go_enter Try.func21, Try.ntmps21
  go_wp2
  go_returns
  exact ⟨rfl, rfl⟩

set_option maxHeartbeats 400000 in
theorem lastof_nil (c : Int) (w : World) : Calls Try.prog 44 #[.pointer none, .int .i64 c] w fun e w' => e = .returned (.agg #[.int .i64 0, .int .i64 0, .int .i64 0, .string ⟨#[]⟩, .slice none 0 0, .int .i64 0]) ∧ Below w.heap.size w w' := by
  go_enter Try.func44, Try.ntmps44
  go_wp2
  go_returns
  exact ⟨rfl, by go_grown⟩

set_option maxHeartbeats 400000 in
theorem lastof_out (b : Nat) (c : Int) (hc : c < 0 ∨ 4 ≤ c) (w : World) : Calls Try.prog 44 #[.pointer (some ⟨b, 0, none⟩), .int .i64 c] w fun e w' => e = .returned (.agg #[.int .i64 0, .int .i64 0, .int .i64 0, .string ⟨#[]⟩, .slice none 0 0, .int .i64 0]) ∧ Below w.heap.size w w' := by
  by_cases h1 : c < 0
  · clear hc
    go_enter Try.func44, Try.ntmps44
    go_wp2
    go_returns
    exact ⟨rfl, by go_grown⟩
  · have h2 : 4 ≤ c := by omega
    have h3 : 0 ≤ c := by omega
    clear hc h1
    go_enter Try.func44, Try.ntmps44
    go_wp2
    go_returns
    exact ⟨rfl, by go_grown⟩

/-- The cells of client c. -/
theorem sto_client {b : Nat} {s : StoV} {w : World} (h : Sto layP w b s) (c : Nat) (hc : c < 4) : ∃ v, Nil0 v ∧ w.cell? ⟨b, 2 + c * 6, none⟩ = some (.int .i64 (s.cl c).seq) ∧ w.cell? ⟨b, 2 + c * 6 + 1, none⟩ = some (.int .i64 (s.cl c).code) ∧ w.cell? ⟨b, 2 + c * 6 + 2, none⟩ = some (.int .i64 (s.cl c).ver) ∧
    w.cell? ⟨b, 2 + c * 6 + 3, none⟩ = some (.string (s.cl c).data) ∧ w.cell? ⟨b, 2 + c * 6 + 4, none⟩ = some v ∧ w.cell? ⟨b, 2 + c * 6 + 5, none⟩ = some (.int .i64 (s.cl c).place) := by
  obtain ⟨f, hk, ht⟩ := h
  obtain ⟨g1, g2, g3, g4, g5, g6⟩ := ht.2.2.2.1 c hc
  exact ⟨_, g6, g1 ▸ hk.cell (2 + c * 6) (by omega), g3 ▸ hk.cell (2 + c * 6 + 1) (by omega), g4 ▸ hk.cell (2 + c * 6 + 2) (by omega), g5 ▸ hk.cell (2 + c * 6 + 3) (by omega), hk.cell (2 + c * 6 + 4) (by omega), g2 ▸ hk.cell (2 + c * 6 + 5) (by omega)⟩

/-- What the program keeps of a client. -/
def LastIs (l : LastV) (w : World) (e : Ending) (w' : World) : Prop :=
  ∃ ao cap, e = .returned (.agg #[.int .i64 l.seq, .int .i64 l.code, .int .i64 l.ver, .string l.data, .slice ao 0 cap, .int .i64 l.place]) ∧ Nil0 (.slice ao 0 cap) ∧ Below w.heap.size w w'

set_option maxHeartbeats 1000000 in
theorem lastof_r (b c : Nat) (s : StoV) (w : World) (hc : c < 4) (h : Sto layP w b s) : Calls Try.prog 44 #[.pointer (some ⟨b, 0, none⟩), .int .i64 c] w (LastIs (s.cl c) w) := by
  have hlt := h.lt
  obtain ⟨v, hv, c1, c2, c3, c4, c5, c6⟩ := sto_client h c hc
  obtain ⟨ao, cap, rfl, hv1⟩ := hv
  have HV : Hid (Nil0 (.slice ao 0 cap)) := ⟨ao, cap, rfl, hv1⟩
  clear h hv1
  have hc' : (c : Int) < 4 := by omega
  have hc0 : (0 : Int) ≤ (c : Int) := by omega
  generalize s.cl c = l at c1 c2 c3 c4 c5 c6 ⊢
  obtain ⟨sq, cd, vr, dt, pl⟩ := l
  simp only at c1 c2 c3 c4 c5 c6
  go_enter Try.func44, Try.ntmps44
  go_wp2
  go_returns
  exact ⟨ao, cap, rfl, HV.out, by go_grown⟩

theorem run_seq (a b c d e f : Value) (u : World) : (Instr.field 63 (.agg #[a, b, c, d, e, f]) 0).run Try.prog u = .ok a u := by kernel_rfl

/-- The last request of a client: none of its own, if there is no such client. -/
def lastV (s : StoV) (c : Int) : LastV := if 0 ≤ c ∧ c < 4 then s.cl c.toNat else zeroL
theorem lastof_any (b : Nat) (c : Int) (s : StoV) (w : World) (h : Sto layP w b s) : Calls Try.prog 44 #[.pointer (some ⟨b, 0, none⟩), .int .i64 c] w (LastIs (lastV s c) w) := by
  by_cases hc : 0 ≤ c ∧ c < 4
  · have h' := lastof_r b c.toNat s w (by omega) h
    rw [Int.toNat_of_nonneg hc.1] at h'
    rw [lastV, if_pos hc]
    exact h'
  · rw [lastV, if_neg hc]
    exact (lastof_out b c (by omega) w).mono fun e w' ⟨he, hb⟩ => ⟨none, 0, he, Nil0.none, hb⟩

set_option maxHeartbeats 1000000 in
theorem sseq_of (p : Option Addr) (c : Int) (l : LastV) (w : World) (H : Hid (Calls Try.prog 44 #[.pointer p, .int .i64 c] w (LastIs l w))) :
    Calls Try.prog 22 #[.pointer p, .int .i64 c] w fun e w' => e = .returned (.int .i64 l.seq) ∧ Below w.heap.size w w' := by
  have q1 := run_seq
  obtain ⟨sq, cd, vr, dt, pl⟩ := l
  go_enter Try.func22, Try.ntmps22
  go_wp2_with fail
  refine H.out.mono ?_
  rintro e w1 ⟨ao, cap, rfl, _, hb⟩
  have HB := Lib.hid hb
  clear hb
  go_wp2
  go_returns
  exact ⟨rfl, HB.out⟩
theorem sseq_r (b : Nat) (c : Int) (s : StoV) (w : World) (h : Sto layP w b s) : Calls Try.prog 22 #[.pointer (some ⟨b, 0, none⟩), .int .i64 c] w fun e w' => e = .returned (.int .i64 (lastV s c).seq) ∧ Below w.heap.size w w' :=
  sseq_of _ c _ w (lastof_any b c s w h)
theorem sseq_nil (c : Int) (w : World) : Calls Try.prog 22 #[.pointer none, .int .i64 c] w fun e w' => e = .returned (.int .i64 0) ∧ Below w.heap.size w w' :=
  sseq_of _ c zeroL w ((lastof_nil c w).mono fun _ _ ⟨he, hb⟩ => ⟨none, 0, he, Nil0.none, hb⟩)

/-- What Last tells. -/
def LastTold (l : LastV) (w : World) (e : Ending) (w' : World) : Prop :=
  ∃ ao cap, e = .returned (.tuple #[.agg #[.int .i64 l.code, .int .i64 l.ver, .string l.data, .slice ao 0 cap], .int .i64 l.place]) ∧ Nil0 (.slice ao 0 cap) ∧ Below w.heap.size w w'
set_option maxHeartbeats 1000000 in
theorem slast_of (p : Option Addr) (c : Int) (l : LastV) (w : World) (H : Hid (∀ o, Calls Try.prog 44 #[.pointer p, .int .i64 c] (w.alloc o) (LastIs l (w.alloc o)))) :
    Calls Try.prog 23 #[.pointer p, .int .i64 c] w (LastTold l w) := by
  obtain ⟨sq, cd, vr, dt, pl⟩ := l
  go_enter Try.func23, Try.ntmps23
  go_wp2_with fail
  refine (H.out _).mono ?_
  rintro e w1 ⟨ao, cap, rfl, hn, hb⟩
  have HN := Lib.hid hn
  have HB := Lib.hid (((Below.refl _ w).alloc (Nat.le_refl _) _).trans (hb.mono (by simp)))
  have R1 : RepAt w1 w.heap.size 0 0 ⟨#[]⟩ (.slice none 0 0) := RepAt.keep (RepAt.new w 0 0 ⟨#[]⟩ (.slice none 0 0)) hb (by simp)
  have hlt := R1.lt
  have HE := Lib.hid ((rep_stored (c' := cd) (n' := vr) (d' := dt) R1 (.slice ao 0 cap)).alloc (.cells #[.int .i64 sq, .int .i64 cd, .int .i64 vr, .string dt, .slice ao 0 cap, .int .i64 pl] 63)).cells.1
  obtain ⟨⟨d0, d1, d2, d3⟩, ⟨z0, z1, z2, z3⟩⟩ := R1.cells
  clear hb hn R1
  go_wp2
  go_region
  all_goals
    go_wp2
    obtain ⟨e0, e1, e2, e3⟩ := HE.out
    unfold stored at e0 e1 e2 e3
    refine bodyPost_ret (v := .tuple #[.agg #[.int .i64 cd, .int .i64 vr, .string dt, .slice ao 0 cap], .int .i64 pl]) (by simp [results, Try.results23, go_sem, e0, e1, e2, e3]) rfl ⟨ao, cap, rfl, HN.out, ?_⟩
    exact (Below.alloc (stored_below HB.out (Nat.le_refl _) cd vr dt (.slice ao 0 cap)) (by have := HB.out.size; rw [stored_size]; exact this) _).drew
theorem slast_r (b : Nat) (c : Int) (s : StoV) (w : World) (h : Sto layP w b s) : Calls Try.prog 23 #[.pointer (some ⟨b, 0, none⟩), .int .i64 c] w (LastTold (lastV s c) w) :=
  slast_of _ c _ w (fun o => lastof_any b c s _ (h.alloc o))
theorem slast_nil (c : Int) (w : World) : Calls Try.prog 23 #[.pointer none, .int .i64 c] w (LastTold zeroL w) :=
  slast_of _ c zeroL w (fun o => (lastof_nil c (w.alloc o)).mono fun _ _ ⟨he, hb⟩ => ⟨none, 0, he, Nil0.none, hb⟩)

/-! ### a resource's versions -/
set_option maxHeartbeats 400000 in
theorem of_out (p : Option Addr) (i : Int) (hi : i < 0 ∨ 32 ≤ i) (w : World) : Calls Try.prog 34 #[.pointer p, .int .i64 i] w fun e w' => e = .returned (.slice none 0 0) ∧ w = w' := by
  by_cases h1 : i < 0
  · clear hi
    go_enter Try.func34, Try.ntmps34
    go_wp2
    go_returns
    exact ⟨rfl, rfl⟩
  · have h2 : 32 ≤ i := by omega
    have h3 : 0 ≤ i := by omega
    clear hi h1
    go_enter Try.func34, Try.ntmps34
    go_wp2
    go_returns
    exact ⟨rfl, rfl⟩
set_option maxHeartbeats 400000 in
theorem of_r (b i : Nat) (ao : Option Addr) (n cap : Nat) (w : World) (hi : i < 32) (hc : w.cell? ⟨b, 26 + i, none⟩ = some (.slice ao n cap)) :
    Calls Try.prog 34 #[.pointer (some ⟨b, 26, none⟩), .int .i64 i] w fun e w' => e = .returned (.slice ao n cap) ∧ w = w' := by
  have i0 : (0 : Int) ≤ (i : Int) := by omega
  have i1 : (i : Int) < 32 := by omega
  go_enter Try.func34, Try.ntmps34
  go_wp2
  go_returns
  exact ⟨rfl, rfl⟩

theorem sto_res {b : Nat} {s : StoV} {w : World} (h : Sto layP w b s) (i : Nat) (hi : i < 32) : ∃ ao cap, w.cell? ⟨b, 26 + i, none⟩ = some (.slice ao (s.res i).length cap) ∧ Vers w w.heap.size (.slice ao (s.res i).length cap) (s.res i) := by
  obtain ⟨f, hk, ht⟩ := h
  have hv := ht.2.2.2.2 i hi
  have hc := hk.cell (26 + i) (by omega)
  obtain ⟨ao, cap, he⟩ := hv.shape
  rw [show f (26 + i) = f (layP.res i) from rfl, he] at hc
  rw [he] at hv
  exact ⟨ao, cap, hc, hv⟩

def resV (s : StoV) (i : Int) : List VerV := if 0 ≤ i ∧ i < 32 then s.res i.toNat else []
set_option maxHeartbeats 1000000 in
theorem sversions_of (b : Nat) (i : Int) (v : Value) (n : Nat) (L : List VerV) (w : World) (HO : Hid (Calls Try.prog 34 #[.pointer (some ⟨b, 26, none⟩), .int .i64 i] w fun e w' => e = .returned v ∧ w = w'))
    (HK : Hid (Calls Try.prog 45 #[v] w fun e w' => ∃ v', e = .returned v' ∧ w'.ownsRow w.heap.size 61 2 v' n (verCells L) ∧ Below w.heap.size w w')) :
    Calls Try.prog 26 #[.pointer (some ⟨b, 0, none⟩), .int .i64 i] w fun e w' => ∃ v', e = .returned v' ∧ w'.ownsRow w.heap.size 61 2 v' n (verCells L) ∧ Below w.heap.size w w' := by
  go_enter Try.func26, Try.ntmps26
  go_wp2_with fail
  refine HO.out.mono ?_
  rintro e w1 ⟨rfl, rfl⟩
  go_wp2_with fail
  refine HK.out.mono ?_
  rintro e w1 ⟨v', rfl, hown, hb⟩
  have HW := Lib.hid hown
  have HB := Lib.hid hb
  clear hown hb
  go_wp2
  go_returns
  exact ⟨v', rfl, HW.out, HB.out⟩
set_option maxHeartbeats 400000 in
theorem sversions_nil (i : Int) (w : World) : Calls Try.prog 26 #[.pointer none, .int .i64 i] w fun e w' => e = .returned (.slice none 0 0) ∧ w = w' := by
  go_enter Try.func26, Try.ntmps26
  go_wp2
  go_returns
  exact ⟨rfl, rfl⟩
theorem sversions_r (b : Nat) (i : Int) (s : StoV) (w : World) (h : Sto layP w b s) (hl : (resV s i).length ≤ 1000000) :
    Calls Try.prog 26 #[.pointer (some ⟨b, 0, none⟩), .int .i64 i] w fun e w' => ∃ v', e = .returned v' ∧ w'.ownsRow w.heap.size 61 2 v' (resV s i).length (verCells (resV s i)) ∧ Below w.heap.size w w' := by
  by_cases hi : 0 ≤ i ∧ i < 32
  · obtain ⟨ao, cap, hc, hv⟩ := sto_res h i.toNat (by omega)
    have ho := of_r b i.toNat ao _ cap w (by omega) hc
    rw [Int.toNat_of_nonneg hi.1] at ho
    rw [resV, if_pos hi] at hl ⊢
    exact sversions_of b i _ _ _ w ho (clonev_any _ _ _ w hv (Nat.le_refl _) hl)
  · rw [resV, if_neg hi]
    exact sversions_of b i _ _ _ w (of_out _ i (by omega) w) (clonev_any _ _ [] w (Vers.none w w.heap.size) (Nat.le_refl _) (Nat.zero_le _))
end Go.Proofs.Yticokpaegadbbaa
