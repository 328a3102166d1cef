/-
  A BAG's CALLS: Add, Take, Double, Drop, To, Lose; of nil. No condition but that lengths stay below a million.
-/
import Derived.Test.YtkflkkdfklbfpaaBagY
import Derived.Test.YtkflkkdfklbfpaaHeld
import Derived.Lib.ConvBytes
namespace Go.Proofs.Ytkflkkdfklbfpaa
open Go.RowKit

/-- A text as bytes: a new row. -/
theorem conv_textG (u : World) (s : ByteArray) (hl : s.size ≤ maxLen) : ∃ c u', (convert 9 28 (.string s)).run Try.prog u = .ok (.slice (some ⟨u.heap.size, 0, none⟩) s.size c) u' ∧
    Byt u' u'.heap.size (.slice (some ⟨u.heap.size, 0, none⟩) s.size c) s.data.toList ∧ Below u.heap.size u u' ∧ ∃ cs fz, u'.heap[u.heap.size]? = some (.cells cs 5 fz) := by
  have hs : s.data.toList.length = s.size := Array.length_toList
  have hr := Lib.run_convert_string_bytes (P := Try.prog) u 9 28 5 s Try.underlying9 Try.underlying28 Try.underlying5
  refine ⟨_, _, hr, ?_, ?_, _, _, Lib.bytesWorld_at_new u 5 s⟩
  · refine ⟨_, _, by rw [hs], by rw [hs]; exact grownCap_ge u s.size 0 5, grownCap_le_maxLen u s.size 0 5 hl, fun e => by simp at e, fun _ => ⟨_, _, rfl, by rw [Lib.bytesWorld_size]; omega, fun j hj => ?_⟩⟩
    rw [Nat.zero_add]
    exact Lib.bytesWorld_cell u 5 s j (by rw [← hs]; exact hj)
  · exact ⟨rfl, rfl, rfl, by rw [Lib.bytesWorld_size]; omega, fun k hk => Lib.bytesWorld_at_old u 5 s k hk⟩

theorem BR.from {n g : Nat} {v : Value} {L : List MsgV} {w u w' : World} (hb : Below w.heap.size w u) (h : BR n g v L u w') : BR n g v L w w' := by
  obtain ⟨v', h1, h2⟩ := h
  exact ⟨v', h1, (Only.of hb).then h2 fun _ _ hx => hx⟩
theorem BR.then {n g : Nat} {v : Value} {L : List MsgV} {w u w' : World} (h : BR n g v L w u) (hb : Below u.heap.size u w') : BR n g v L w w' := by
  obtain ⟨v', h1, h2⟩ := h
  exact ⟨v', h1.on hb, h2.then (.of hb) fun _ _ hx => hx⟩

set_option maxHeartbeats 2000000 in
theorem badd_any {w : World} {n g : Nat} {v : Value} {L : List MsgV} (H : Bg w n g v L) (hn : n ≤ w.heap.size) (fr td : Int) (x : Value) (l : List UInt8) (B : Nat) (hy : Byt w B x l) (hB : B ≤ w.heap.size) (hlim : L.length ≤ 1000000) :
    Calls Try.prog 9 #[.pointer (some ⟨g, 0, none⟩), .int .i64 fr, .int .i64 td, x] w fun e w' => e = .returned (.int .i64 L.length) ∧ BR n g v (L ++ [⟨fr, td, ⟨l.toArray⟩⟩]) w w' := by
  have HK : Hid (∀ u, Below w.heap.size w u → (convert 28 9 x).run Try.prog u = .ok (.string ⟨l.toArray⟩) u) := fun u hu => run_conv_byt (hy.keep (hu.mono hB))
  have HA : Hid (∀ u, Below w.heap.size w u → Calls Try.prog 19 #[.pointer (some ⟨g, 0, none⟩), .agg #[.int .i64 fr, .int .i64 td, .string ⟨l.toArray⟩]] u fun e w' => e = .returned (.int .i64 L.length) ∧ Hid (BR n g v (L ++ [⟨fr, td, ⟨l.toArray⟩⟩]) w w')) := fun u hu =>
    (rwadd_any (H.on hu) (Nat.le_trans hn hu.size) ⟨fr, td, ⟨l.toArray⟩⟩ hlim).mono fun _ _ ⟨he, h⟩ => ⟨he, h.from hu⟩
  obtain ⟨a, c, rfl, _⟩ := id hy
  have kx := HK.out _ ((Below.refl _ _).drew (w := w))
  clear H hy
  go_enter Try.func9, Try.ntmps9
  go_wp2_with fail
  go_region_with (go_at_call 19; (with_reducible refine (HA.out _ (by go_grown)).mono ?_); rintro e w2 ⟨rfl, h2⟩)
  all_goals
    go_wp2
    go_returns
    exact ⟨rfl, h2.out⟩

/-! ### a place that is none -/
set_option maxHeartbeats 400000 in
theorem btake_no {p : Option Addr} {w : World} {n : Nat} (H : Calls Try.prog 12 #[.pointer p] w fun e w' => e = .returned (.int .i64 n) ∧ w = w') (k : Int) (hk : ¬ (0 ≤ k ∧ k < n)) :
    Calls Try.prog 13 #[.pointer p, .int .i64 k] w fun e w' => e = .returned (.tuple #[.int .i64 0, .int .i64 0, .slice none 0 0, .int .i64 5]) ∧ w = w' := by
  have HS := bghas_len H k
  rw [decide_eq_false hk] at HS
  have HS := Lib.hid HS
  clear H
  go_enter Try.func13, Try.ntmps13
  go_wp2_with fail
  refine HS.out.mono ?_
  rintro e w1 ⟨rfl, rfl⟩
  go_wp2
  go_returns
  exact ⟨rfl, rfl⟩
set_option maxHeartbeats 400000 in
theorem bdouble_no {p : Option Addr} {w : World} {n : Nat} (H : Calls Try.prog 12 #[.pointer p] w fun e w' => e = .returned (.int .i64 n) ∧ w = w') (k : Int) (hk : ¬ (0 ≤ k ∧ k < n)) :
    Calls Try.prog 15 #[.pointer p, .int .i64 k] w fun e w' => e = .returned (.int .i64 5) ∧ w = w' := by
  have HS := bghas_len H k
  rw [decide_eq_false hk] at HS
  have HS := Lib.hid HS
  clear H
  go_enter Try.func15, Try.ntmps15
  go_wp2_with fail
  refine HS.out.mono ?_
  rintro e w1 ⟨rfl, rfl⟩
  go_wp2
  go_returns
  exact ⟨rfl, rfl⟩
set_option maxHeartbeats 400000 in
theorem bdrop_no {p : Option Addr} {w : World} {n : Nat} (H : Calls Try.prog 12 #[.pointer p] w fun e w' => e = .returned (.int .i64 n) ∧ w = w') (k : Int) (hk : ¬ (0 ≤ k ∧ k < n)) :
    Calls Try.prog 16 #[.pointer p, .int .i64 k] w fun e w' => e = .returned (.int .i64 5) ∧ w = w' := by
  have HS := bghas_len H k
  rw [decide_eq_false hk] at HS
  have HS := Lib.hid HS
  clear H
  go_enter Try.func16, Try.ntmps16
  go_wp2_with fail
  refine HS.out.mono ?_
  rintro e w1 ⟨rfl, rfl⟩
  go_wp2
  go_returns
  exact ⟨rfl, rfl⟩

/-! ### of nil -/
set_option maxHeartbeats 400000 in
theorem badd_nil (fr td : Int) (a : Option Addr) (l c : Nat) (w : World) : Calls Try.prog 9 #[.pointer none, .int .i64 fr, .int .i64 td, .slice a l c] w fun e w' => e = .returned (.int .i64 (-1)) ∧ w = w' := by
  go_enter Try.func9, Try.ntmps9
  go_wp2
  go_returns
  exact ⟨rfl, rfl⟩
set_option maxHeartbeats 400000 in
theorem bto_nil (who : Int) (w : World) : Calls Try.prog 10 #[.pointer none, .int .i64 who] w fun e w' => e = .returned (.slice none 0 0) ∧ w = w' := by
  go_enter Try.func10, Try.ntmps10
  go_wp2
  go_returns
  exact ⟨rfl, rfl⟩
set_option maxHeartbeats 400000 in
theorem blose_nil (who : Int) (w : World) : Calls Try.prog 11 #[.pointer none, .int .i64 who] w fun e w' => e = .returned (.int .i64 0) ∧ w = w' := by
  go_enter Try.func11, Try.ntmps11
  go_wp2
  go_returns
  exact ⟨rfl, rfl⟩

/-! ### a place that is one -/
set_option maxHeartbeats 1000000 in
theorem bdouble_any {w : World} {n g : Nat} {v : Value} {L : List MsgV} (H : Bg w n g v L) (hn : n ≤ w.heap.size) (k : Nat) (hk : k < L.length) (hlim : L.length ≤ 1000000) :
    Calls Try.prog 15 #[.pointer (some ⟨g, 0, none⟩), .int .i64 k] w fun e w' => e = .returned (.int .i64 0) ∧ BR n g v (L ++ [mAt L k]) w w' := by
  have HS := bghas_len (bglen_any H) k
  rw [decide_eq_true (show (0 : Int) ≤ (k : Int) ∧ (k : Int) < (L.length : Int) by omega)] at HS
  have HS := Lib.hid HS
  have HT : Hid (∀ u, Below w.heap.size w u → Calls Try.prog 26 #[.pointer (some ⟨g, 0, none⟩), .int .i64 k] u fun e w' => e = .returned (.agg (msgC (mAt L k)).toArray) ∧ Below w.heap.size w w') := fun u hu => (rwat_any (H.on hu) k hk hlim).mono fun _ _ ⟨he, h⟩ => ⟨he, hu.trans (h.mono hu.size)⟩
  have HA : Hid (∀ u, Below w.heap.size w u → Calls Try.prog 19 #[.pointer (some ⟨g, 0, none⟩), .agg (msgC (mAt L k)).toArray] u fun e w' => e = .returned (.int .i64 L.length) ∧ Hid (BR n g v (L ++ [mAt L k]) w w')) := fun u hu =>
    (rwadd_any (H.on hu) (Nat.le_trans hn hu.size) (mAt L k) hlim).mono fun _ _ ⟨he, h⟩ => ⟨he, h.from hu⟩
  generalize (Value.agg (msgC (mAt L k)).toArray) = mv at HT HA
  clear H
  go_enter Try.func15, Try.ntmps15
  go_wp2_with fail
  refine HS.out.mono ?_
  rintro e w1 ⟨rfl, rfl⟩
  go_upto_region 9 with fail
  go_region_with (first
    | (go_at_call 26; (with_reducible refine (HT.out _ (by go_grown)).mono ?_); rintro e w2 ⟨rfl, h2⟩)
    | (go_at_call 19; (with_reducible refine (HA.out _ (by first | assumption | go_grown)).mono ?_); rintro e w3 ⟨rfl, h3⟩))
  all_goals
    go_wp2
    go_returns
    exact ⟨rfl, h3.out⟩
set_option maxHeartbeats 1000000 in
theorem bdrop_any {w : World} {n g : Nat} {v : Value} {L : List MsgV} (H : Bg w n g v L) (k : Nat) (hk : k < L.length) (hlim : L.length ≤ 1000000) :
    Calls Try.prog 16 #[.pointer (some ⟨g, 0, none⟩), .int .i64 k] w fun e w' => e = .returned (.int .i64 0) ∧ BR n g v (L.take k ++ L.drop (k + 1)) w w' := by
  have HS := bghas_len (bglen_any H) k
  rw [decide_eq_true (show (0 : Int) ≤ (k : Int) ∧ (k : Int) < (L.length : Int) by omega)] at HS
  have HS := Lib.hid HS
  have HA := Lib.hid (rwout_any H k hk hlim)
  clear H
  go_enter Try.func16, Try.ntmps16
  go_wp2_with fail
  refine HS.out.mono ?_
  rintro e w1 ⟨rfl, rfl⟩
  go_wp2_with fail
  refine HA.out.mono ?_
  rintro e w2 ⟨rfl, h2⟩
  go_wp2
  go_returns
  exact ⟨rfl, h2⟩
set_option maxHeartbeats 1000000 in
theorem bto_any {w : World} {n g : Nat} {v : Value} {L : List MsgV} (H : Bg w n g v L) (who : Int) (hlim : L.length ≤ 1000000) :
    Calls Try.prog 10 #[.pointer (some ⟨g, 0, none⟩), .int .i64 who] w fun e w' => ∃ v', e = .returned v' ∧ w'.ownsRow w.heap.size 3 1 v' (toAt L who L.length).length (intCells (toAt L who L.length)) ∧ Below w.heap.size w w' := by
  have HI : Hid (∀ u, Below w.heap.size w u → Calls Try.prog 21 #[.int .i64 who] u fun e w' => ∃ p, e = .returned (ToF p) ∧ Hid (w'.cell? ⟨p, 0, none⟩ = some (.int .i64 who)) ∧ p < w'.heap.size ∧ Below w.heap.size w w') := fun u hu =>
    (isTo_any who u).mono fun _ _ ⟨he, h1, h2, _, h3⟩ => ⟨_, he, h1, h2, hu.trans (h3.mono hu.size)⟩
  have HP : Hid (∀ u p, Below w.heap.size w u → u.cell? ⟨p, 0, none⟩ = some (.int .i64 who) → p < u.heap.size → Calls Try.prog 20 #[.pointer (some ⟨g, 0, none⟩), ToF p] u fun e w' => ∃ a c, e = .returned (.slice a (toAt L who L.length).length c) ∧ Hid (w'.ownsRow w.heap.size 3 1 (.slice a (toAt L who L.length).length c) (toAt L who L.length).length (intCells (toAt L who L.length))) ∧ Hid (Below w.heap.size w w')) := fun u p hu hp hpl => by
    refine (rwplaces_any (H.on hu) hlim p who hp hpl).mono ?_
    rintro e w' ⟨v', rfl, h1, h2⟩
    obtain ⟨a, c, rfl⟩ := own_shape h1
    exact ⟨a, c, rfl, ⟨h1.1, by
      rcases h1.2 with h0 | ⟨g, cap, cur, hv, hr, h3⟩
      · exact .inl h0
      · exact .inr ⟨g, cap, cur, hv, Nat.le_trans hu.size hr, h3⟩⟩, hu.trans (h2.mono hu.size)⟩
  clear H
  unfold ToF at HI HP
  go_enter Try.func10, Try.ntmps10
  go_wp2_with fail
  go_region_with (first
    | (go_at_call 21; (with_reducible refine (HI.out _ (by go_grown)).mono ?_); rintro e w2 ⟨p, rfl, h1, h2, h4⟩)
    | (go_at_call 20; (with_reducible refine (HP.out _ _ (by first | assumption | go_grown) h1.out h2).mono ?_); rintro e w3 ⟨a3, c3, rfl, h5, h6⟩))
  all_goals
    go_wp2
    go_returns
    exact ⟨_, rfl, h5.out, h6.out⟩
set_option maxHeartbeats 1000000 in
theorem blose_any {w : World} {n g : Nat} {v : Value} {L : List MsgV} (H : Bg w n g v L) (who : Int) (hlim : L.length ≤ 1000000) :
    Calls Try.prog 11 #[.pointer (some ⟨g, 0, none⟩), .int .i64 who] w fun e w' => e = .returned (.int .i64 ((L.length : Int) - (rest L who).length)) ∧ BR n g v (rest L who) w w' := by
  have HI : Hid (∀ u, Below w.heap.size w u → Calls Try.prog 21 #[.int .i64 who] u fun e w' => ∃ p, e = .returned (ToF p) ∧ Hid (w'.heap[p]? = some (.cells #[.int .i64 who] 3 (0, 0))) ∧ Below w.heap.size w w') := fun u hu =>
    (isTo_any who u).mono fun _ _ ⟨he, h1, h2, h4, h3⟩ => ⟨_, he, h4, hu.trans (h3.mono hu.size)⟩
  have HP : Hid (∀ u p, Below w.heap.size w u → u.heap[p]? = some (.cells #[.int .i64 who] 3 (0, 0)) → Calls Try.prog 22 #[.pointer (some ⟨g, 0, none⟩), ToF p] u fun e w' => e = .returned (.int .i64 ((L.length : Int) - (rest L who).length)) ∧ Hid (BR n g v (rest L who) w w')) := fun u p hu hp =>
    (rwlose_any (H.on hu) hlim p who hp).mono fun _ _ ⟨he, h⟩ => ⟨he, h.from hu⟩
  clear H
  unfold ToF at HI HP
  go_enter Try.func11, Try.ntmps11
  go_wp2_with fail
  go_region_with (first
    | (go_at_call 21; (with_reducible refine (HI.out _ (by go_grown)).mono ?_); rintro e w2 ⟨p, rfl, h1, h4⟩)
    | (go_at_call 22; (with_reducible refine (HP.out _ _ (by first | assumption | go_grown) h1.out).mono ?_); rintro e w3 ⟨rfl, h5⟩))
  all_goals
    go_wp2
    go_returns
    exact ⟨rfl, h5.out⟩
set_option maxHeartbeats 4000000 in
theorem btake_any {w : World} {n g : Nat} {v : Value} {L : List MsgV} (H : Bg w n g v L) (k : Nat) (hk : k < L.length) (hlim : L.length ≤ 1000000) (hsz : (mAt L k).tx.size ≤ maxLen) :
    Calls Try.prog 13 #[.pointer (some ⟨g, 0, none⟩), .int .i64 k] w fun e w' => (∃ a c, e = .returned (.tuple #[.int .i64 (mAt L k).fr, .int .i64 (mAt L k).to, .slice a (mAt L k).tx.size c, .int .i64 0]) ∧ Byt w' w'.heap.size (.slice a (mAt L k).tx.size c) (mAt L k).tx.data.toList ∧ ∀ b, a = some b → ∃ cs fz, w'.heap[b.block]? = some (.cells cs 5 fz)) ∧ BR n g v (L.take k ++ L.drop (k + 1)) w w' := by
  have HS := bghas_len (bglen_any H) k
  rw [decide_eq_true (show (0 : Int) ≤ (k : Int) ∧ (k : Int) < (L.length : Int) by omega)] at HS
  have HS := Lib.hid HS
  have HA := Lib.hid (rwout_any H k hk hlim)
  have HX := Lib.hid (fun u => conv_textG u (mAt L k).tx hsz)
  clear H hsz
  generalize mAt L k = m at HA HX ⊢
  unfold msgC at HA
  go_enter Try.func13, Try.ntmps13
  go_wp2_with fail
  refine HS.out.mono ?_
  rintro e w1 ⟨rfl, rfl⟩
  go_wp2_with fail
  refine HA.out.mono ?_
  rintro e w2 ⟨rfl, h2⟩
  have H2 := Lib.hid h2
  clear h2
  go_upto_region 11 with fail
  obtain ⟨r, hr⟩ : ∃ r, r = w2.heap.size := ⟨_, rfl⟩
  obtain ⟨w3, hw3⟩ : ∃ w3, w3 = w2.alloc (.cells #[.int .i64 m.fr, .int .i64 m.to, .string m.tx] 58) := ⟨_, rfl⟩
  have X0 : Hid (w3.cell? ⟨r, 0, none⟩ = some (.int .i64 m.fr)) := Lib.hid (by rw [hw3, hr]; simp)
  have X1 : Hid (w3.cell? ⟨r, 1, none⟩ = some (.int .i64 m.to)) := Lib.hid (by rw [hw3, hr]; simp)
  have X2 : Hid (w3.cell? ⟨r, 2, none⟩ = some (.string m.tx)) := Lib.hid (by rw [hw3, hr]; simp)
  have RL : Hid (r < w3.heap.size) := Lib.hid (by rw [hw3, hr]; simp)
  have HB3 : Hid (Below w2.heap.size w2 w3) := Lib.hid (by rw [hw3]; go_grown)
  rw [← hw3, ← hr]
  clear hw3 hr HA
  refine wp_region_held_drew (S := (fun u => Below w3.heap.size w3 u)) (by kernel_rfl) (Below.drew (Below.refl _ _)) (fun hHeld => ?_)
  first
    | (refine held_take 0 18 (v := ?_) rfl rfl (by kernel_rfl) (by kernel_rfl) (by kernel_rfl) (fun _ _ _ h => h) (by assumption) (by rfl) ?_ ?_; rotate_left; (focus (intro w hSw; (have y0 := (Below.cell (p := ⟨r, 0, none⟩) hSw RL.out).trans X0.out; have y1 := (Below.cell (p := ⟨r, 1, none⟩) hSw RL.out).trans X1.out; have y2 := (Below.cell (p := ⟨r, 2, none⟩) hSw RL.out).trans X2.out); go_simp <;> with_reducible rfl)))
    | refine held_pass 0 18 rfl rfl (by kernel_rfl) (by kernel_rfl) (by kernel_rfl) (fun _ _ _ h => h) (by assumption) (by rfl) ?_
  simp only [Act.put, List.setIfInBounds_toArray, List.set_cons_zero, List.set_cons_succ]
  first
    | (refine held_take 1 19 (v := ?_) rfl rfl (by kernel_rfl) (by kernel_rfl) (by kernel_rfl) (fun _ _ _ h => h) (by assumption) (by rfl) ?_ ?_; rotate_left; (focus (intro w hSw; (have y0 := (Below.cell (p := ⟨r, 0, none⟩) hSw RL.out).trans X0.out; have y1 := (Below.cell (p := ⟨r, 1, none⟩) hSw RL.out).trans X1.out; have y2 := (Below.cell (p := ⟨r, 2, none⟩) hSw RL.out).trans X2.out); go_simp <;> with_reducible rfl)))
    | refine held_pass 1 19 rfl rfl (by kernel_rfl) (by kernel_rfl) (by kernel_rfl) (fun _ _ _ h => h) (by assumption) (by rfl) ?_
  simp only [Act.put, List.setIfInBounds_toArray, List.set_cons_zero, List.set_cons_succ]
  first
    | (refine held_take 2 20 (v := ?_) rfl rfl (by kernel_rfl) (by kernel_rfl) (by kernel_rfl) (fun _ _ _ h => h) (by assumption) (by rfl) ?_ ?_; rotate_left; (focus (intro w hSw; (have y0 := (Below.cell (p := ⟨r, 0, none⟩) hSw RL.out).trans X0.out; have y1 := (Below.cell (p := ⟨r, 1, none⟩) hSw RL.out).trans X1.out; have y2 := (Below.cell (p := ⟨r, 2, none⟩) hSw RL.out).trans X2.out); go_simp <;> with_reducible rfl)))
    | refine held_pass 2 20 rfl rfl (by kernel_rfl) (by kernel_rfl) (by kernel_rfl) (fun _ _ _ h => h) (by assumption) (by rfl) ?_
  simp only [Act.put, List.setIfInBounds_toArray, List.set_cons_zero, List.set_cons_succ]
  first
    | (refine held_take 3 21 (v := ?_) rfl rfl (by kernel_rfl) (by kernel_rfl) (by kernel_rfl) (fun _ _ _ h => h) (by assumption) (by rfl) ?_ ?_; rotate_left; (focus (intro w hSw; (have y0 := (Below.cell (p := ⟨r, 0, none⟩) hSw RL.out).trans X0.out; have y1 := (Below.cell (p := ⟨r, 1, none⟩) hSw RL.out).trans X1.out; have y2 := (Below.cell (p := ⟨r, 2, none⟩) hSw RL.out).trans X2.out); go_simp <;> with_reducible rfl)))
    | refine held_pass 3 21 rfl rfl (by kernel_rfl) (by kernel_rfl) (by kernel_rfl) (fun _ _ _ h => h) (by assumption) (by rfl) ?_
  simp only [Act.put, List.setIfInBounds_toArray, List.set_cons_zero, List.set_cons_succ]
  first
    | (refine held_take 4 22 (v := ?_) rfl rfl (by kernel_rfl) (by kernel_rfl) (by kernel_rfl) (fun _ _ _ h => h) (by assumption) (by rfl) ?_ ?_; rotate_left; (focus (intro w hSw; (have y0 := (Below.cell (p := ⟨r, 0, none⟩) hSw RL.out).trans X0.out; have y1 := (Below.cell (p := ⟨r, 1, none⟩) hSw RL.out).trans X1.out; have y2 := (Below.cell (p := ⟨r, 2, none⟩) hSw RL.out).trans X2.out); go_simp <;> with_reducible rfl)))
    | refine held_pass 4 22 rfl rfl (by kernel_rfl) (by kernel_rfl) (by kernel_rfl) (fun _ _ _ h => h) (by assumption) (by rfl) ?_
  simp only [Act.put, List.setIfInBounds_toArray, List.set_cons_zero, List.set_cons_succ]
  first
    | (refine held_take 5 23 (v := ?_) rfl rfl (by kernel_rfl) (by kernel_rfl) (by kernel_rfl) (fun _ _ _ h => h) (by assumption) (by rfl) ?_ ?_; rotate_left; (focus (intro w hSw; (have y0 := (Below.cell (p := ⟨r, 0, none⟩) hSw RL.out).trans X0.out; have y1 := (Below.cell (p := ⟨r, 1, none⟩) hSw RL.out).trans X1.out; have y2 := (Below.cell (p := ⟨r, 2, none⟩) hSw RL.out).trans X2.out); go_simp <;> with_reducible rfl)))
    | refine held_pass 5 23 rfl rfl (by kernel_rfl) (by kernel_rfl) (by kernel_rfl) (fun _ _ _ h => h) (by assumption) (by rfl) ?_
  simp only [Act.put, List.setIfInBounds_toArray, List.set_cons_zero, List.set_cons_succ]
  first
    | (refine held_take 7 4 (v := ?_) rfl rfl (by kernel_rfl) (by kernel_rfl) (by kernel_rfl) (fun _ _ _ h => h) (by assumption) (by rfl) ?_ ?_; rotate_left; (focus (intro w hSw; (have y0 := (Below.cell (p := ⟨r, 0, none⟩) hSw RL.out).trans X0.out; have y1 := (Below.cell (p := ⟨r, 1, none⟩) hSw RL.out).trans X1.out; have y2 := (Below.cell (p := ⟨r, 2, none⟩) hSw RL.out).trans X2.out); go_simp <;> with_reducible rfl)))
    | refine held_pass 7 4 rfl rfl (by kernel_rfl) (by kernel_rfl) (by kernel_rfl) (fun _ _ _ h => h) (by assumption) (by rfl) ?_
  simp only [Act.put, List.setIfInBounds_toArray, List.set_cons_zero, List.set_cons_succ]
  first
    | (refine held_take 8 5 (v := ?_) rfl rfl (by kernel_rfl) (by kernel_rfl) (by kernel_rfl) (fun _ _ _ h => h) (by assumption) (by rfl) ?_ ?_; rotate_left; (focus (intro w hSw; (have y0 := (Below.cell (p := ⟨r, 0, none⟩) hSw RL.out).trans X0.out; have y1 := (Below.cell (p := ⟨r, 1, none⟩) hSw RL.out).trans X1.out; have y2 := (Below.cell (p := ⟨r, 2, none⟩) hSw RL.out).trans X2.out); go_simp <;> with_reducible rfl)))
    | refine held_pass 8 5 rfl rfl (by kernel_rfl) (by kernel_rfl) (by kernel_rfl) (fun _ _ _ h => h) (by assumption) (by rfl) ?_
  simp only [Act.put, List.setIfInBounds_toArray, List.set_cons_zero, List.set_cons_succ]
  refine held_call 6 24 rfl rfl (by kernel_rfl) (by rfl) (fun K hK => ?_)
  simp only [Go.wp_at_succ, Go.wp_at_zero]
  obtain ⟨cc, w4, hcv, hy4, hb4, hk4⟩ := HX.out w3.drew
  have hB4 : Below w3.heap.size w3 w4 := Below.trans (Below.drew (Below.refl _ _)) hb4
  have B4 := Lib.hid hB4
  have Y4 := Lib.hid hy4
  have K4 := Lib.hid hk4
  clear hy4 hb4 hB4 hk4
  go_simp
  refine hK.out _ _ B4.out (fun hHeld => ?_)
  clear hK K
  try simp only [Act.put, List.setIfInBounds_toArray, List.set_cons_zero, List.set_cons_succ]
  first
    | (refine held_take 9 6 (v := ?_) rfl rfl (by kernel_rfl) (by kernel_rfl) (by kernel_rfl) (fun _ _ _ h => h) (by assumption) (by rfl) ?_ ?_; rotate_left; (focus (intro w hSw; (have y0 := (Below.cell (p := ⟨r, 0, none⟩) hSw RL.out).trans X0.out; have y1 := (Below.cell (p := ⟨r, 1, none⟩) hSw RL.out).trans X1.out; have y2 := (Below.cell (p := ⟨r, 2, none⟩) hSw RL.out).trans X2.out); go_simp <;> with_reducible rfl)))
    | refine held_pass 9 6 rfl rfl (by kernel_rfl) (by kernel_rfl) (by kernel_rfl) (fun _ _ _ h => h) (by assumption) (by rfl) ?_
  simp only [Act.put, List.setIfInBounds_toArray, List.set_cons_zero, List.set_cons_succ]
  first
    | (refine held_take 10 7 (v := ?_) rfl rfl (by kernel_rfl) (by kernel_rfl) (by kernel_rfl) (fun _ _ _ h => h) (by assumption) (by rfl) ?_ ?_; rotate_left; (focus (intro w hSw; (have y0 := (Below.cell (p := ⟨r, 0, none⟩) hSw RL.out).trans X0.out; have y1 := (Below.cell (p := ⟨r, 1, none⟩) hSw RL.out).trans X1.out; have y2 := (Below.cell (p := ⟨r, 2, none⟩) hSw RL.out).trans X2.out); go_simp <;> with_reducible rfl)))
    | refine held_pass 10 7 rfl rfl (by kernel_rfl) (by kernel_rfl) (by kernel_rfl) (fun _ _ _ h => h) (by assumption) (by rfl) ?_
  simp only [Act.put, List.setIfInBounds_toArray, List.set_cons_zero, List.set_cons_succ]
  refine wpAnyH_done (by kernel_rfl) ?_ _
  go_wp2
  go_returns
  exact ⟨⟨_, _, rfl, Y4.out, fun b hb => by cases hb; exact K4.out⟩, (H2.out.then (HB3.out)).then B4.out⟩
end Go.Proofs.Ytkflkkdfklbfpaa
