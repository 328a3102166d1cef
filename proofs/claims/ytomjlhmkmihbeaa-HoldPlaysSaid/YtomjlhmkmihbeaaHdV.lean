/-
  A LEASE's QUESTIONS IN MEMORY: their block; size, at, last, kept, add. No condition but that there were at most a million questions.
-/
import Derived.Test.YtomjlhmkmihbeaaClockV
namespace Go.Proofs.Ytomjlhmkmihbeaa
open Go.RowKit

/-- A question as plain data. -/
structure QV where
  asked : Int
  ep : Int
  told : Nat → Bool
def qval (q : QV) : Nat → Value := fun i => if i = 0 then .int .i64 q.asked else if i = 1 then .int .i64 q.ep else .bool (q.told (i - 2))
def QV.agg (q : QV) : Value := .agg #[.int .i64 q.asked, .int .i64 q.ep, .bool (q.told 0), .bool (q.told 1), .bool (q.told 2), .bool (q.told 3), .bool (q.told 4)]
def QV.cells (q : QV) : Array Value := #[.int .i64 q.asked, .int .i64 q.ep, .bool (q.told 0), .bool (q.told 1), .bool (q.told 2), .bool (q.told 3), .bool (q.told 4)]
def QV.zero : QV := ⟨0, 0, fun _ => false⟩
/-- A row of values. -/
def rowV (len : Nat) (g : Nat → Value) : List Value := (List.range len).map g
def upG (g : Nat → Value) (k : Nat) (v : Value) : Nat → Value := fun i => if i = k then v else g i
theorem rowV_len (len : Nat) (g : Nat → Value) : (rowV len g).length = len := by simp [rowV]
theorem rowV_get {len : Nat} (g : Nat → Value) {j : Nat} (h : j < len) : (rowV len g)[j]? = some (g j) := by simp [rowV, h]
theorem rowV_set (len : Nat) (g : Nat → Value) (k : Nat) (v : Value) : (rowV len g).set k v = rowV len (upG g k v) := by
  apply List.ext_getElem?
  intro i
  simp only [rowV, List.getElem?_set, List.length_map, List.length_range, List.getElem?_map]
  by_cases h : k = i
  · subst h
    by_cases hk : k < len
    · simp [hk, upG]
    · simp [hk]
  · by_cases hi : i < len
    · simp [List.getElem?_range hi, if_neg h, upG, Ne.symm h]
    · simp [show len ≤ i by omega, if_neg h]
theorem rowV_congr {len : Nat} {g h : Nat → Value} (e : ∀ i, i < len → g i = h i) : rowV len g = rowV len h := List.map_congr_left fun i hi => e i (List.mem_range.1 hi)

/-- What the lease's cells hold. -/
def hval (n r : Nat) (qs : Nat → QV) : Nat → Value := fun i => if i = 0 then .int .i64 n else if i = 1 then .int .i64 r else qval (qs ((i - 2) / 7)) ((i - 2) % 7)
def upQ (qs : Nat → QV) (j : Nat) (q : QV) : Nat → QV := fun i => if i = j then q else qs i
theorem hval_at (n r : Nat) (qs : Nat → QV) (j : Nat) {i : Nat} (hi : i < 7) : hval n r qs (2 + j * 7 + i) = qval (qs j) i := by
  unfold hval
  rw [if_neg (by omega), if_neg (by omega), show (2 + j * 7 + i - 2) / 7 = j by omega, show (2 + j * 7 + i - 2) % 7 = i by omega]
theorem each30 {x : Nat} (hx : x < 30) : x = 0 ∨ x = 1 ∨ ∃ j i, j < 4 ∧ i < 7 ∧ x = 2 + j * 7 + i := by
  by_cases h0 : x = 0
  · exact .inl h0
  · by_cases h1 : x = 1
    · exact .inr (.inl h1)
    · exact .inr (.inr ⟨(x - 2) / 7, (x - 2) % 7, by omega, by omega, by omega⟩)
theorem each7 {i : Nat} (hi : i < 7) : i = 0 ∨ i = 1 ∨ i = 2 ∨ i = 3 ∨ i = 4 ∨ i = 5 ∨ i = 6 := by omega

/-- Block b is a lease of n nodes, of which there were r questions. -/
structure Hd (w : World) (b n r : Nat) (qs : Nat → QV) : Prop where
  blk : w.heap[b]? = some (.cells (rowV 30 (hval n r qs)).toArray 66 (0, 0))
  pos : 0 < n
  le : n ≤ 5
section
variable {w w' : World} {b n r : Nat} {qs : Nat → QV}
theorem Hd.lt (H : Hd w b n r qs) : b < w.heap.size := lt_of_block H.blk
theorem Hd.cell (H : Hd w b n r qs) {i : Nat} (hi : i < 30) : w.cell? ⟨b, i, none⟩ = some (hval n r qs i) ∧ w.frozen? ⟨b, i, none⟩ = false := by
  have H' := H.blk
  exact ⟨by rw [cell_of_row _ _ _ _ _ _ H', List.getElem?_toArray, rowV_get _ hi], by simp [World.frozen?, H']⟩
theorem Hd.num (H : Hd w b n r qs) : w.cell? ⟨b, 0, none⟩ = some (.int .i64 n) ∧ w.frozen? ⟨b, 0, none⟩ = false := H.cell (i := 0) (by decide)
theorem Hd.cnt (H : Hd w b n r qs) : w.cell? ⟨b, 1, none⟩ = some (.int .i64 r) ∧ w.frozen? ⟨b, 1, none⟩ = false := H.cell (i := 1) (by decide)
theorem Hd.q (H : Hd w b n r qs) {j : Nat} (hj : j < 4) {i : Nat} (hi : i < 7) : w.cell? ⟨b, 2 + j * 7 + i, none⟩ = some (qval (qs j) i) ∧ w.frozen? ⟨b, 2 + j * 7 + i, none⟩ = false := by
  have h := H.cell (i := 2 + j * 7 + i) (by omega)
  rwa [hval_at n r qs j hi] at h
theorem Hd.q7 (H : Hd w b n r qs) {j : Nat} (hj : j < 4) : (w.cell? ⟨b, 2 + j * 7, none⟩ = some (.int .i64 (qs j).asked) ∧ w.cell? ⟨b, 2 + j * 7 + 1, none⟩ = some (.int .i64 (qs j).ep) ∧ w.cell? ⟨b, 2 + j * 7 + 2, none⟩ = some (.bool ((qs j).told 0)) ∧ w.cell? ⟨b, 2 + j * 7 + 3, none⟩ = some (.bool ((qs j).told 1)) ∧
    w.cell? ⟨b, 2 + j * 7 + 4, none⟩ = some (.bool ((qs j).told 2)) ∧ w.cell? ⟨b, 2 + j * 7 + 5, none⟩ = some (.bool ((qs j).told 3)) ∧ w.cell? ⟨b, 2 + j * 7 + 6, none⟩ = some (.bool ((qs j).told 4))) ∧
    (w.frozen? ⟨b, 2 + j * 7, none⟩ = false ∧ w.frozen? ⟨b, 2 + j * 7 + 1, none⟩ = false ∧ w.frozen? ⟨b, 2 + j * 7 + 2, none⟩ = false ∧ w.frozen? ⟨b, 2 + j * 7 + 3, none⟩ = false ∧ w.frozen? ⟨b, 2 + j * 7 + 4, none⟩ = false ∧ w.frozen? ⟨b, 2 + j * 7 + 5, none⟩ = false ∧ w.frozen? ⟨b, 2 + j * 7 + 6, none⟩ = false) := by
  have h0 := H.q hj (i := 0) (by decide)
  have h1 := H.q hj (i := 1) (by decide)
  have h2 := H.q hj (i := 2) (by decide)
  have h3 := H.q hj (i := 3) (by decide)
  have h4 := H.q hj (i := 4) (by decide)
  have h5 := H.q hj (i := 5) (by decide)
  have h6 := H.q hj (i := 6) (by decide)
  exact ⟨⟨h0.1, h1.1, h2.1, h3.1, h4.1, h5.1, h6.1⟩, h0.2, h1.2, h2.2, h3.2, h4.2, h5.2, h6.2⟩
theorem Hd.keep {S : Nat → Prop} (H : Hd w b n r qs) (ho : Only S w w') (hs : ¬ S b) : Hd w' b n r qs := ⟨(ho.block b H.lt hs).trans H.blk, H.pos, H.le⟩
theorem Hd.on (H : Hd w b n r qs) (hb : Below w.heap.size w w') : Hd w' b n r qs := H.keep (S := fun _ => False) (.of hb) (fun h => h)
theorem Hd.drew (H : Hd w b n r qs) : Hd w.drew b n r qs := H.keep (S := fun _ => False) (Only.drew (.refl _ _)) (fun h => h)
end
/-- One cell stored. -/
theorem hd_set {w : World} {b : Nat} {g : Nat → Value} {T : TypeId} (h : w.heap[b]? = some (.cells (rowV 30 g).toArray T (0, 0))) (k : Nat) (v : Value) : (w.setCell ⟨b, k, none⟩ v).heap[b]? = some (.cells (rowV 30 (upG g k v)).toArray T (0, 0)) := by
  rw [heap_setCell_same _ _ _ _ _ _ h, List.setIfInBounds_toArray, rowV_set]
/-- A question stored whole. -/
def qW (w : World) (b j : Nat) (q : QV) : World := ((((((w.setCell ⟨b, 2 + j * 7, none⟩ (.int .i64 q.asked)).setCell ⟨b, 2 + j * 7 + 1, none⟩ (.int .i64 q.ep)).setCell ⟨b, 2 + j * 7 + 2, none⟩ (.bool (q.told 0))).setCell ⟨b, 2 + j * 7 + 3, none⟩ (.bool (q.told 1))).setCell ⟨b, 2 + j * 7 + 4, none⟩ (.bool (q.told 2))).setCell ⟨b, 2 + j * 7 + 5, none⟩ (.bool (q.told 3))).setCell ⟨b, 2 + j * 7 + 6, none⟩ (.bool (q.told 4))
theorem only_seven {w : World} {b a0 a1 a2 a3 a4 a5 a6 : Nat} (v0 v1 v2 v3 v4 v5 v6 : Value) : Only (· = b) w (((((((w.setCell ⟨b, a0, none⟩ v0).setCell ⟨b, a1, none⟩ v1).setCell ⟨b, a2, none⟩ v2).setCell ⟨b, a3, none⟩ v3).setCell ⟨b, a4, none⟩ v4).setCell ⟨b, a5, none⟩ v5).setCell ⟨b, a6, none⟩ v6) :=
  ((((((Only.set b a0 _ v0).trans (Only.set b a1 _ v1)).trans (Only.set b a2 _ v2)).trans (Only.set b a3 _ v3)).trans (Only.set b a4 _ v4)).trans (Only.set b a5 _ v5)).trans (Only.set b a6 _ v6)
theorem Hd.stored {w : World} {b n r : Nat} {qs : Nat → QV} (H : Hd w b n r qs) {j : Nat} (q : QV) : Hd (qW w b j q) b n r (upQ qs j q) ∧ Only (· = b) w (qW w b j q) := by
  refine ⟨⟨?_, H.pos, H.le⟩, only_seven _ _ _ _ _ _ _⟩
  unfold qW
  rw [hd_set (hd_set (hd_set (hd_set (hd_set (hd_set (hd_set H.blk _ _) _ _) _ _) _ _) _ _) _ _) _ _]
  congr 3
  refine rowV_congr fun x hx => ?_
  rcases each30 hx with rfl | rfl | ⟨j', i, hj', hi, rfl⟩
  · simp [upG, hval]
    try omega
  · simp [upG, hval]
    try omega
  · rw [hval_at n r _ j' hi]
    by_cases e : j' = j
    · subst e
      rw [show upQ qs j' q j' = q by simp [upQ]]
      rcases each7 hi with rfl | rfl | rfl | rfl | rfl | rfl | rfl <;> simp [upG, qval]
    · rw [show upQ qs j q j' = qs j' by simp [upQ, e], ← hval_at n r qs j' hi]
      unfold upG
      rw [if_neg (by omega), if_neg (by omega), if_neg (by omega), if_neg (by omega), if_neg (by omega), if_neg (by omega), if_neg (by omega)]
/-- Who told, cleared. -/
def cW (w : World) (b j : Nat) : World := ((((w.setCell ⟨b, 2 + j * 7 + 2, none⟩ (.bool false)).setCell ⟨b, 2 + j * 7 + 3, none⟩ (.bool false)).setCell ⟨b, 2 + j * 7 + 4, none⟩ (.bool false)).setCell ⟨b, 2 + j * 7 + 5, none⟩ (.bool false)).setCell ⟨b, 2 + j * 7 + 6, none⟩ (.bool false)
def QV.lost (q : QV) : QV := ⟨q.asked, q.ep, fun _ => false⟩
theorem Hd.cleared {w : World} {b n r : Nat} {qs : Nat → QV} (H : Hd w b n r qs) (j : Nat) : Hd (cW w b j) b n r (upQ qs j (qs j).lost) ∧ Only (· = b) w (cW w b j) := by
  refine ⟨⟨?_, H.pos, H.le⟩, ((((Only.set b _ _ _).trans (Only.set b _ _ _)).trans (Only.set b _ _ _)).trans (Only.set b _ _ _)).trans (Only.set b _ _ _)⟩
  unfold cW
  rw [hd_set (hd_set (hd_set (hd_set (hd_set H.blk _ _) _ _) _ _) _ _) _ _]
  congr 3
  refine rowV_congr fun x hx => ?_
  rcases each30 hx with rfl | rfl | ⟨j', i, hj', hi, rfl⟩
  · simp [upG, hval]
    try omega
  · simp [upG, hval]
    try omega
  · rw [hval_at n r _ j' hi]
    by_cases e : j' = j
    · subst e
      rw [show upQ qs j' (qs j').lost j' = (qs j').lost by simp [upQ]]
      rcases each7 hi with rfl | rfl | rfl | rfl | rfl | rfl | rfl
      · simp only [upG]
        rw [if_neg (by omega), if_neg (by omega), if_neg (by omega), if_neg (by omega), if_neg (by omega), hval_at n r qs j' (by decide)]
        rfl
      · simp only [upG]
        rw [if_neg (by omega), if_neg (by omega), if_neg (by omega), if_neg (by omega), if_neg (by omega), hval_at n r qs j' (by decide)]
        rfl
      all_goals simp [upG, qval, QV.lost]
    · rw [show upQ qs j (qs j).lost j' = qs j' by simp [upQ, e], ← hval_at n r qs j' hi]
      unfold upG
      rw [if_neg (by omega), if_neg (by omega), if_neg (by omega), if_neg (by omega), if_neg (by omega)]
/-- One more that told. -/
def QV.tell (q : QV) (i : Nat) : QV := ⟨q.asked, q.ep, fun x => if x = i then true else q.told x⟩
theorem Hd.tell {w : World} {b n r : Nat} {qs : Nat → QV} (H : Hd w b n r qs) (j : Nat) {i : Nat} (hi5 : i < 5) : Hd (w.setCell ⟨b, 2 + j * 7 + 2 + i, none⟩ (.bool true)) b n r (upQ qs j ((qs j).tell i)) := by
  refine ⟨?_, H.pos, H.le⟩
  rw [hd_set H.blk _ _]
  congr 3
  refine rowV_congr fun x hx => ?_
  rcases each30 hx with rfl | rfl | ⟨j', i', hj', hi, rfl⟩
  · simp [upG, hval]
    try omega
  · simp [upG, hval]
    try omega
  · rw [hval_at n r _ j' hi]
    by_cases e : j' = j
    · subst e
      rw [show upQ qs j' ((qs j').tell i) j' = (qs j').tell i by simp [upQ]]
      unfold upG
      by_cases e2 : i' = 2 + i
      · rw [if_pos (by omega), e2]
        unfold qval QV.tell
        rw [if_neg (by omega), if_neg (by omega)]
        simp
      · rw [if_neg (by omega), hval_at n r qs j' hi]
        unfold qval QV.tell
        by_cases a0 : i' = 0
        · rw [if_pos a0, if_pos a0]
        · by_cases a1 : i' = 1
          · rw [if_neg a0, if_neg a0, if_pos a1, if_pos a1]
          · rw [if_neg a0, if_neg a0, if_neg a1, if_neg a1]
            simp only
            rw [if_neg (by omega)]
    · rw [show upQ qs j ((qs j).tell i) j' = qs j' by simp [upQ, e], ← hval_at n r qs j' hi]
      unfold upG
      rw [if_neg (by omega)]
/-- One question more counted. -/
theorem Hd.more {w : World} {b n r : Nat} {qs : Nat → QV} (H : Hd w b n r qs) (r' : Nat) : Hd (w.setCell ⟨b, 1, none⟩ (.int .i64 (r' : Nat))) b n r' qs := by
  refine ⟨?_, H.pos, H.le⟩
  rw [hd_set H.blk _ _]
  congr 3

set_option maxHeartbeats 400000 in
theorem hdsize_r {w : World} {b n r : Nat} {qs : Nat → QV} (H : Hd w b n r qs) : Calls Try.prog 35 #[.pointer (some ⟨b, 0, none⟩)] w fun e w' => e = .returned (.int .i64 n) ∧ w = w' := by
  obtain ⟨c0, z0⟩ := H.num
  clear H
  go_enter Try.func35, Try.ntmps35
  go_wp2
  go_returns
  exact ⟨rfl, rfl⟩

/-- Is the question kept? -/
def keptV (r : Nat) (id : Int) : Bool := decide (1 ≤ id ∧ id ≤ (r : Int) ∧ (r : Int) - 4 < id)
set_option maxHeartbeats 400000 in
theorem hdat_no {w : World} {b n r : Nat} {qs : Nat → QV} (H : Hd w b n r qs) (hr : r ≤ 1000000) (id : Int) (h : keptV r id = false) : Calls Try.prog 38 #[.pointer (some ⟨b, 1, none⟩), .int .i64 id] w fun e w' => e = .returned (.pointer none) ∧ w = w' := by
  obtain ⟨c0, z0⟩ := H.cnt
  have h' := of_decide_eq_false h
  clear H h
  by_cases h1 : id < 1
  · clear h'
    go_enter Try.func38, Try.ntmps38
    go_wp2
    go_returns
    exact ⟨rfl, rfl⟩
  · by_cases h2 : (r : Int) < id
    · clear h'
      go_enter Try.func38, Try.ntmps38
      go_wp2
      go_returns
      exact ⟨rfl, rfl⟩
    · have h3 : id ≤ (r : Int) - 4 := by omega
      clear h'
      go_enter Try.func38, Try.ntmps38
      go_wp2
      go_returns
      exact ⟨rfl, rfl⟩
set_option maxHeartbeats 400000 in
theorem hdat_yes {w : World} {b n r : Nat} {qs : Nat → QV} (H : Hd w b n r qs) (hr : r ≤ 1000000) (id : Int) (h : keptV r id = true) {p : Nat} (hp : (id - 1) % 4 = (p : Int)) : Calls Try.prog 38 #[.pointer (some ⟨b, 1, none⟩), .int .i64 id] w fun e w' => e = .returned (.pointer (some ⟨b, 2 + p * 7, none⟩)) ∧ w = w' := by
  obtain ⟨c0, z0⟩ := H.cnt
  obtain ⟨h1, h2, h3⟩ := of_decide_eq_true h
  have HP := Lib.hid hp
  have h4 : ¬ id ≤ (r : Int) - 4 := by omega
  clear H h hp
  go_enter Try.func38, Try.ntmps38
  go_wp2
  rw [HP.out, Int.toNat_natCast]
  go_returns
  exact ⟨rfl, rfl⟩

theorem kept_last {r : Nat} (h : 0 < r) : keptV r (r : Int) = true := decide_eq_true (by omega)
set_option maxHeartbeats 400000 in
theorem hdlast_yes {w : World} {b n r : Nat} {qs : Nat → QV} (H : Hd w b n r qs) (hr : r ≤ 1000000) (h : 0 < r) : Calls Try.prog 36 #[.pointer (some ⟨b, 1, none⟩)] w fun e w' => e = .returned (.pointer (some ⟨b, 2 + (r - 1) % 4 * 7, none⟩)) ∧ w = w' := by
  obtain ⟨c0, z0⟩ := H.cnt
  have HC := Lib.hid (hdat_yes H hr (r : Int) (kept_last h) (p := (r - 1) % 4) (by omega))
  clear H h
  go_enter Try.func36, Try.ntmps36
  go_wp2_with fail
  refine HC.out.mono ?_
  rintro e w1 ⟨rfl, rfl⟩
  go_wp2
  go_returns
  exact ⟨rfl, rfl⟩
set_option maxHeartbeats 400000 in
theorem hdlast_no {w : World} {b n : Nat} {qs : Nat → QV} (H : Hd w b n 0 qs) : Calls Try.prog 36 #[.pointer (some ⟨b, 1, none⟩)] w fun e w' => e = .returned (.pointer none) ∧ w = w' := by
  obtain ⟨c0, z0⟩ := H.cnt
  have HC := Lib.hid (hdat_no H (by omega) ((0 : Nat) : Int) (decide_eq_false (by omega)))
  clear H
  go_enter Try.func36, Try.ntmps36
  go_wp2_with fail
  refine HC.out.mono ?_
  rintro e w1 ⟨rfl, rfl⟩
  go_wp2
  go_returns
  exact ⟨rfl, rfl⟩

set_option maxHeartbeats 400000 in
theorem hdkept_r {w : World} {b n r : Nat} {qs : Nat → QV} (H : Hd w b n r qs) (hr : r ≤ 1000000) : Calls Try.prog 39 #[.pointer (some ⟨b, 1, none⟩)] w fun e w' => e = .returned (.slice (some ⟨b, 2, none⟩) (min r 4) 4) ∧ Below w.heap.size w w' := by
  obtain ⟨c0, z0⟩ := H.cnt
  have B0 := Lib.hid ((Below.refl w.heap.size w).drew)
  clear H
  by_cases h : r ≤ 4
  · have h' : (r : Int) ≤ 4 := by omega
    have h0 : (0 : Int) ≤ (r : Int) := by omega
    have h2 : ¬ 4 < (r : Int) := by omega
    have e : min r 4 = r := by omega
    rw [e]
    clear e
    go_enter Try.func39, Try.ntmps39
    go_wp2_with fail
    go_region
    all_goals
      go_wp2
      go_returns
      exact ⟨by first | rfl | (simp; done), B0.out⟩
  · have h' : 4 < (r : Int) := by omega
    have e : min r 4 = 4 := by omega
    rw [e]
    clear e
    go_enter Try.func39, Try.ntmps39
    go_wp2_with fail
    go_region
    all_goals
      go_wp2
      go_returns
      exact ⟨by first | rfl | (simp; done), B0.out⟩

set_option maxRecDepth 100000 in
set_option maxHeartbeats 1000000 in
theorem hdadd_r {w : World} {b n r : Nat} {qs : Nat → QV} (H : Hd w b n r qs) (hr : r ≤ 1000000) (q : QV) : Calls Try.prog 37 #[.pointer (some ⟨b, 1, none⟩), q.agg] w fun e w' => e = .returned (.int .i64 ((r : Int) + 1)) ∧ Hd w' b n (r + 1) (upQ qs (r % 4) q) ∧ Only (· = b) w w' := by
  have H1 := H.on ((Below.refl w.heap.size w).alloc (Nat.le_refl _) (.cells q.cells 61))
  obtain ⟨⟨a0, a1, a2, a3, a4, a5, a6⟩, f0, f1, f2, f3, f4, f5, f6⟩ := H1.q7 (j := r % 4) (by omega)
  obtain ⟨c0, z0⟩ := H1.cnt
  obtain ⟨hS, hO⟩ := H1.stored (j := r % 4) q
  have HO1 : Hid (Only (· = b) w (qW (w.alloc (.cells q.cells 61)) b (r % 4) q).drew) := ((Only.alloc _ w _).trans hO).drew
  have HS := Lib.hid hS.drew
  clear hS hO H H1
  obtain ⟨W, hW⟩ : ∃ W, W = (qW (w.alloc (.cells q.cells 61)) b (r % 4) q).drew := ⟨_, rfl⟩
  rw [← hW] at HO1 HS
  have HW := Lib.hid hW
  clear hW
  unfold QV.agg
  unfold qW QV.cells at *
  obtain ⟨qa, qe, qt⟩ := q
  dsimp only at *
  go_enter Try.func37, Try.ntmps37
  go_wp2_with fail
  go_region
  rw [← HW.out]
  obtain ⟨d0, d1⟩ := HS.out.cnt
  have HM := Lib.hid (HS.out.more (r + 1))
  have HO2 := Lib.hid (HO1.out.trans (Only.set b 1 W (.int .i64 ((r + 1 : Nat) : Int))))
  rw [show ((r + 1 : Nat) : Int) = (r : Int) + 1 by omega] at HM HO2
  clear a0 a1 a2 a3 a4 a5 a6 f0 f1 f2 f3 f4 f5 f6 c0 z0 HW HO1 HS
  go_wp2_with fail
  go_returns
  exact ⟨rfl, HM.out, HO2.out⟩
end Go.Proofs.Ytomjlhmkmihbeaa
