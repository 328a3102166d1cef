/-
  A BAG WHOSE BLOCKS LIE ABOVE n: each call by contract, over its messages; what stands beside it; told. No condition but that lengths stay below a million.
-/
import Derived.Test.YtkflkkdfklbfpaaBagZ
import Derived.Lib.SlBytesConst
namespace Go.Proofs.Ytkflkkdfklbfpaa
open Go.RowKit

/-- Block g is a bag of the messages L; its blocks lie from n on; what was there below n in w0 is as it was. -/
def BgO (n : Nat) (w0 : World) (g : Nat) (L : List MsgV) (w : World) : Prop := ∃ v, Bg w n g v L ∧ n ≤ w.heap.size ∧ Below n w0 w
/-- Every block of another kind stands as it was. -/
def KB (w w' : World) : Prop := ∀ (x : Nat) (cs : Array Value) (e : TypeId), e ≠ 55 → e ≠ 58 → w.heap[x]? = some (.cells cs e (0, 0)) → w'.heap[x]? = some (.cells cs e (0, 0))
theorem KB.trans {u v w : World} (h : KB u v) (k : KB v w) : KB u w := fun x cs e h1 h2 hx => k x cs e h1 h2 (h x cs e h1 h2 hx)
theorem KB.of {w w' : World} (h : Below w.heap.size w w') : KB w w' := fun x _ _ _ _ hx => (h.block x (lt_of_block hx)).trans hx
theorem KB.refl (w : World) : KB w w := fun _ _ _ _ _ h => h
theorem BR.kb {w w' : World} {n g : Nat} {v : Value} {L L' : List MsgV} (H : Bg w n g v L) (h : BR n g v L' w w') : KB w w' := by
  obtain ⟨v', _, ho⟩ := h
  intro x cs e h1 h2 hx
  refine (ho.block x (lt_of_block hx) fun hb => ?_).trans hx
  obtain ⟨cs', e', h3, h4⟩ := H.kind x hb
  have := h3.symm.trans hx
  simp only [Option.some.injEq, Obj.cells.injEq] at this
  obtain ⟨_, rfl, _⟩ := this
  rcases h4 with h | h
  · exact h1 h
  · exact h2 h

section
variable {n : Nat} {w0 w w' : World} {g : Nat} {L : List MsgV}
theorem BgO.bel (h : BgO n w0 g L w) : Below n w0 w := h.choose_spec.2.2
theorem BgO.size (h : BgO n w0 g L w) : n ≤ w.heap.size := h.choose_spec.2.1
theorem BgO.on (h : BgO n w0 g L w) (hb : Below w.heap.size w w') : BgO n w0 g L w' := by
  obtain ⟨v, h1, h2, h3⟩ := h
  exact ⟨v, h1.on hb, Nat.le_trans h2 hb.size, h3.trans (hb.mono h2)⟩
theorem BgO.drew (h : BgO n w0 g L w) : BgO n w0 g L w.drew := h.on ⟨rfl, rfl, rfl, Nat.le_refl _, fun _ _ => rfl⟩
theorem BgO.drewN (h : BgO n w0 g L w) (q : Nat) : BgO n w0 g L (w.drewN q) := h.on ⟨rfl, rfl, rfl, Nat.le_refl _, fun _ _ => rfl⟩
theorem BgO.alloc (h : BgO n w0 g L w) (o : Obj) : BgO n w0 g L (w.alloc o) := h.on ((Below.refl _ _).alloc (Nat.le_refl _) o)
theorem BgO.turn {v : Value} {L' : List MsgV} (h1 : Bg w n g v L) (h2 : n ≤ w.heap.size) (h3 : Below n w0 w) (h : BR n g v L' w w') : BgO n w0 g L' w' := by
  obtain ⟨v', g1, g3⟩ := h
  exact ⟨v', g1, Nat.le_trans h2 g3.size, g3.below h3 (fun x hx => (h1.all x hx).1) h2⟩
/-- The bag stands where a block of another kind alone is written. -/
theorem BgO.other {R : Nat} {cs : Array Value} {e : TypeId} (h : BgO n w0 g L w) (hR : w.heap[R]? = some (.cells cs e (0, 0))) (h1 : e ≠ 55) (h2 : e ≠ 58) (hn : n ≤ R) (ho : Only (· = R) w w') : BgO n w0 g L w' := by
  obtain ⟨v, g1, g2, g3⟩ := h
  refine ⟨v, g1.keep ho fun x hx he => ?_, Nat.le_trans g2 ho.size, ho.below g3 (fun x e => e ▸ hn) g2⟩
  subst he
  obtain ⟨cs', e', h4, h5⟩ := g1.kind x hx
  have := h4.symm.trans hR
  simp only [Option.some.injEq, Obj.cells.injEq] at this
  obtain ⟨_, rfl, _⟩ := this
  rcases h5 with h | h
  · exact h1 h
  · exact h2 h

theorem g_new (w0 w : World) (n : Nat) (hb : Below n w0 w) (hn : n ≤ w.heap.size) : Calls Try.prog 7 #[] w fun e w' => e = .returned (.pointer (some ⟨w.heap.size, 0, none⟩)) ∧ BgO n w0 w.heap.size [] w' ∧ Below w.heap.size w w' :=
  (bgnew_any w).mono fun _ _ ⟨he, ⟨d1, d2, d3⟩, hw⟩ => ⟨he, ⟨_, ⟨d1, d2.low hn, Nat.le_trans hn d3⟩, Nat.le_trans hn hw.size, hb.trans (hw.mono hn)⟩, hw⟩
theorem g_len (h : BgO n w0 g L w) : Calls Try.prog 12 #[.pointer (some ⟨g, 0, none⟩)] w fun e w' => e = .returned (.int .i64 L.length) ∧ w = w' := by
  obtain ⟨v, h1, h2, h3⟩ := h
  exact bglen_any h1
theorem g_add (h : BgO n w0 g L w) (fr td : Int) {x : Value} {l : List UInt8} {B : Nat} (hy : Byt w B x l) (hB : B ≤ w.heap.size) (hlim : L.length ≤ 1000000) :
    Calls Try.prog 9 #[.pointer (some ⟨g, 0, none⟩), .int .i64 fr, .int .i64 td, x] w fun e w' => e = .returned (.int .i64 L.length) ∧ BgO n w0 g (L ++ [⟨fr, td, ⟨l.toArray⟩⟩]) w' ∧ KB w w' := by
  obtain ⟨v, h1, h2, h3⟩ := h
  exact (badd_any h1 h2 fr td x l B hy hB hlim).mono fun _ _ ⟨he, hr⟩ => ⟨he, .turn h1 h2 h3 hr, hr.kb h1⟩
/-- What Take tells of a message. -/
def TellsG (m : MsgV) (e : Ending) (w' : World) : Prop := ∃ a c, e = .returned (.tuple #[.int .i64 m.fr, .int .i64 m.to, .slice a m.tx.size c, .int .i64 0]) ∧ Byt w' w'.heap.size (.slice a m.tx.size c) m.tx.data.toList
theorem g_take (h : BgO n w0 g L w) (k : Nat) (hk : k < L.length) (hlim : L.length ≤ 1000000) (hsz : (mAt L k).tx.size ≤ maxLen) :
    Calls Try.prog 13 #[.pointer (some ⟨g, 0, none⟩), .int .i64 k] w fun e w' => TellsG (mAt L k) e w' ∧ BgO n w0 g (L.take k ++ L.drop (k + 1)) w' ∧ KB w w' := by
  obtain ⟨v, h1, h2, h3⟩ := h
  exact (btake_any h1 k hk hlim hsz).mono fun _ _ ⟨⟨a, c, he, hy, _⟩, hr⟩ => ⟨⟨a, c, he, hy⟩, .turn h1 h2 h3 hr, hr.kb h1⟩
/-- The same, and of which kind the block of the told bytes is. -/
def TellsK (m : MsgV) (e : Ending) (w' : World) : Prop := ∃ a c, e = .returned (.tuple #[.int .i64 m.fr, .int .i64 m.to, .slice a m.tx.size c, .int .i64 0]) ∧ Byt w' w'.heap.size (.slice a m.tx.size c) m.tx.data.toList ∧ ∀ b, a = some b → ∃ cs fz, w'.heap[b.block]? = some (.cells cs 5 fz)
theorem g_takeK (h : BgO n w0 g L w) (k : Nat) (hk : k < L.length) (hlim : L.length ≤ 1000000) (hsz : (mAt L k).tx.size ≤ maxLen) :
    Calls Try.prog 13 #[.pointer (some ⟨g, 0, none⟩), .int .i64 k] w fun e w' => TellsK (mAt L k) e w' ∧ BgO n w0 g (L.take k ++ L.drop (k + 1)) w' ∧ KB w w' := by
  obtain ⟨v, h1, h2, h3⟩ := h
  exact (btake_any h1 k hk hlim hsz).mono fun _ _ ⟨he, hr⟩ => ⟨he, .turn h1 h2 h3 hr, hr.kb h1⟩
theorem g_take_no (h : BgO n w0 g L w) (k : Int) (hk : ¬ (0 ≤ k ∧ k < L.length)) :
    Calls Try.prog 13 #[.pointer (some ⟨g, 0, none⟩), .int .i64 k] w fun e w' => e = .returned (.tuple #[.int .i64 0, .int .i64 0, .slice none 0 0, .int .i64 5]) ∧ w = w' := btake_no (g_len h) k hk
theorem g_double (h : BgO n w0 g L w) (k : Nat) (hk : k < L.length) (hlim : L.length ≤ 1000000) :
    Calls Try.prog 15 #[.pointer (some ⟨g, 0, none⟩), .int .i64 k] w fun e w' => e = .returned (.int .i64 0) ∧ BgO n w0 g (L ++ [mAt L k]) w' ∧ KB w w' := by
  obtain ⟨v, h1, h2, h3⟩ := h
  exact (bdouble_any h1 h2 k hk hlim).mono fun _ _ ⟨he, hr⟩ => ⟨he, .turn h1 h2 h3 hr, hr.kb h1⟩
theorem g_double_no (h : BgO n w0 g L w) (k : Int) (hk : ¬ (0 ≤ k ∧ k < L.length)) :
    Calls Try.prog 15 #[.pointer (some ⟨g, 0, none⟩), .int .i64 k] w fun e w' => e = .returned (.int .i64 5) ∧ w = w' := bdouble_no (g_len h) k hk
theorem g_drop (h : BgO n w0 g L w) (k : Nat) (hk : k < L.length) (hlim : L.length ≤ 1000000) :
    Calls Try.prog 16 #[.pointer (some ⟨g, 0, none⟩), .int .i64 k] w fun e w' => e = .returned (.int .i64 0) ∧ BgO n w0 g (L.take k ++ L.drop (k + 1)) w' ∧ KB w w' := by
  obtain ⟨v, h1, h2, h3⟩ := h
  exact (bdrop_any h1 k hk hlim).mono fun _ _ ⟨he, hr⟩ => ⟨he, .turn h1 h2 h3 hr, hr.kb h1⟩
theorem g_drop_no (h : BgO n w0 g L w) (k : Int) (hk : ¬ (0 ≤ k ∧ k < L.length)) :
    Calls Try.prog 16 #[.pointer (some ⟨g, 0, none⟩), .int .i64 k] w fun e w' => e = .returned (.int .i64 5) ∧ w = w' := bdrop_no (g_len h) k hk
theorem g_lose (h : BgO n w0 g L w) (who : Int) (hlim : L.length ≤ 1000000) :
    Calls Try.prog 11 #[.pointer (some ⟨g, 0, none⟩), .int .i64 who] w fun e w' => e = .returned (.int .i64 ((L.length : Int) - (rest L who).length)) ∧ BgO n w0 g (rest L who) w' ∧ KB w w' := by
  obtain ⟨v, h1, h2, h3⟩ := h
  exact (blose_any h1 who hlim).mono fun _ _ ⟨he, hr⟩ => ⟨he, .turn h1 h2 h3 hr, hr.kb h1⟩
theorem g_to (h : BgO n w0 g L w) (who : Int) (hlim : L.length ≤ 1000000) :
    Calls Try.prog 10 #[.pointer (some ⟨g, 0, none⟩), .int .i64 who] w fun e w' => ∃ a c, e = .returned (.slice a (toAt L who L.length).length c) ∧ Ints w' w'.heap.size (.slice a (toAt L who L.length).length c) (toAt L who L.length) ∧ Below w.heap.size w w' := by
  obtain ⟨v, h1, h2, h3⟩ := h
  refine (bto_any h1 who hlim).mono ?_
  rintro e w' ⟨v', rfl, hr, hb⟩
  obtain ⟨a, c, rfl⟩ := own_shape hr
  exact ⟨a, c, rfl, ints_own hr (Nat.le_refl _), hb⟩
end

set_option maxRecDepth 100000 in
set_option maxHeartbeats 4000000 in
theorem told9_any (w : World) : Calls Try.prog 8 #[] w fun e w' => e = .returned (.bool true) ∧ Below w.heap.size w w' := by
  have kc := fun (w : World) (C : Array Value) (n c : Nat) => Lib.run_convert_bytes_const (P := Try.prog) w 28 5 C n c Try.underlying28 Try.underlying5
  have HN := Lib.hid (g_new w w w.heap.size (Below.refl _ _) (Nat.le_refl _))
  obtain ⟨n, hn⟩ : ∃ n, n = w.heap.size := ⟨_, rfl⟩
  rw [← hn] at HN ⊢
  have H1 : Hid (∀ u, BgO n w n [] u → Calls Try.prog 9 #[.pointer (some ⟨n, 0, none⟩), .int .i64 1, .int .i64 2, .slice (some ⟨u.heap.size, 0, none⟩) 1 1] (u.alloc (.cells #[.int .u8 120] 5 (1, 2))) fun e w' => e = .returned (.int .i64 0) ∧ BgO n w n [⟨1, 2, ⟨#[120]⟩⟩] w') :=
    fun u hu => (g_add (hu.alloc _) 1 2 (byt_lit u [120] 5 (1, 2) 1 rfl (by decide)) (by simp) (by simp)).mono fun e w' ⟨he, h, _⟩ => ⟨he, h⟩
  have H2 : Hid (∀ u, BgO n w n [⟨1, 2, ⟨#[120]⟩⟩] u → Calls Try.prog 15 #[.pointer (some ⟨n, 0, none⟩), .int .i64 0] u fun e w' => e = .returned (.int .i64 0) ∧ BgO n w n [⟨1, 2, ⟨#[120]⟩⟩, ⟨1, 2, ⟨#[120]⟩⟩] w') :=
    fun u hu => (g_double hu 0 (by decide) (by decide)).mono fun e w' ⟨he, h, _⟩ => ⟨he, h⟩
  have H3 : Hid (∀ u, BgO n w n [⟨1, 2, ⟨#[120]⟩⟩, ⟨1, 2, ⟨#[120]⟩⟩] u → Calls Try.prog 13 #[.pointer (some ⟨n, 0, none⟩), .int .i64 1] u fun e w' => ∃ a q, e = .returned (.tuple #[.int .i64 1, .int .i64 2, .slice a 1 q, .int .i64 0]) ∧ (convert 28 9 (.slice a 1 q)).run Try.prog w' = .ok (.string ⟨#[120]⟩) w' ∧ BgO n w n [⟨1, 2, ⟨#[120]⟩⟩] w') :=
    fun u hu => (g_take hu 1 (by decide) (by decide) (by decide)).mono fun e w' ⟨⟨a, c, he, hy⟩, h, _⟩ => ⟨a, c, he, run_conv_byt hy, h⟩
  have H4 : Hid (∀ u, BgO n w n [⟨1, 2, ⟨#[120]⟩⟩] u → Calls Try.prog 12 #[.pointer (some ⟨n, 0, none⟩)] u fun e w' => e = .returned (.int .i64 1) ∧ u = w') :=
    fun u hu => g_len hu
  have H5 : Hid (∀ u, BgO n w n [⟨1, 2, ⟨#[120]⟩⟩] u → Calls Try.prog 16 #[.pointer (some ⟨n, 0, none⟩), .int .i64 5] u fun e w' => e = .returned (.int .i64 5) ∧ u = w') :=
    fun u hu => g_drop_no hu 5 (by decide)
  have H6 : Hid (∀ u, BgO n w n [⟨1, 2, ⟨#[120]⟩⟩] u → Calls Try.prog 11 #[.pointer (some ⟨n, 0, none⟩), .int .i64 2] u fun e w' => e = .returned (.int .i64 1) ∧ BgO n w n [] w') :=
    fun u hu => (g_lose hu 2 (by decide)).mono fun e w' ⟨he, h, _⟩ => ⟨he, h⟩
  have H7 : Hid (∀ u, BgO n w n [] u → Calls Try.prog 12 #[.pointer (some ⟨n, 0, none⟩)] u fun e w' => e = .returned (.int .i64 0) ∧ u = w') :=
    fun u hu => g_len hu
  clear hn
  go_enter Try.func8, Try.ntmps8
  go_wp2_with fail
  refine HN.out.mono ?_
  rintro e w1 ⟨rfl, hb, _⟩
  have B1 := Lib.hid hb
  clear hb
  go_wp2_with fail
  refine (H1.out _ B1.out).mono ?_
  rintro e w2 ⟨rfl, hb⟩
  have B2 := Lib.hid hb
  clear hb B1 kc
  go_wp2_with fail
  refine (H2.out _ B2.out).mono ?_
  rintro e w3 ⟨rfl, hb⟩
  have B3 := Lib.hid hb
  clear hb B2
  go_wp2_with fail
  refine (H3.out _ B3.out).mono ?_
  rintro e w4 ⟨a, q, rfl, hk, hb⟩
  have B4 := Lib.hid hb
  clear hb B3
  go_wp2_with fail
  refine (H4.out _ B4.out).mono ?_
  rintro e w5 ⟨rfl, rfl⟩
  clear hk
  go_wp2_with fail
  refine (H5.out _ B4.out).mono ?_
  rintro e w5 ⟨rfl, rfl⟩
  go_wp2_with fail
  refine (H6.out _ B4.out).mono ?_
  rintro e w6 ⟨rfl, hb⟩
  have B6 := Lib.hid hb
  clear hb B4
  go_wp2_with fail
  refine (H7.out _ B6.out).mono ?_
  rintro e w7 ⟨rfl, rfl⟩
  go_wp2
  go_returns
  exact ⟨rfl, B6.out.bel⟩
end Go.Proofs.Ytkflkkdfklbfpaa
