/-
  WHAT THE LAWS ON RECORDS NEED BESIDE: two rows that grow side by side (where each frame ends; the records as texts); a text as bytes; Frame of any record. No condition but that lengths stay below 2^47.
-/
import Derived.Test.YtpmigpgkicacpaaWalT
import Derived.Lib.ConvBytes
namespace Go.Proofs.Ytpmigpgkicacpaa
open Go.RowKit

/-- Where each frame ends, as cells. -/
def endCells (L : List (List UInt8)) : List Value := (List.range L.length).map fun i => Value.int .i64 (((frs (L.take (i + 1))).length : Nat) : Int)
theorem endCells_length (L : List (List UInt8)) : (endCells L).length = L.length := by simp [endCells]
theorem strCells_length (L : List (List UInt8)) : (strCells L).length = L.length := by simp [strCells]
theorem endCells_snoc (L : List (List UInt8)) (r : List UInt8) : endCells (L ++ [r]) = endCells L ++ [Value.int .i64 (((frs (L ++ [r])).length : Nat) : Int)] := by
  unfold endCells
  rw [List.length_append, List.length_singleton, List.range_succ, List.map_append, List.map_singleton]
  congr 1
  · refine List.map_congr_left fun i hi => ?_
    have hi := List.mem_range.1 hi
    rw [List.take_append_of_le_length (by omega)]
  · rw [List.take_of_length_le (by simp)]
theorem endCells_get (L : List (List UInt8)) (i : Nat) (h : i < L.length) : (endCells L)[i]? = some (Value.int .i64 (((frs (L.take (i + 1))).length : Nat) : Int)) := by simp [endCells, h]
theorem take_snoc' (L : List (List UInt8)) (i : Nat) (h : i < L.length) : L.take (i + 1) = L.take i ++ [L.getD i []] := by
  rw [List.take_succ_eq_append_getElem h]
  simp [List.getD, h]
theorem frs_take_le (L : List (List UInt8)) (i : Nat) : (frs (L.take i)).length ≤ (frs L).length := by
  conv => rhs; rw [← List.take_append_drop i L, frs_append, List.length_append]
  omega
theorem frs_bound (L : List (List UInt8)) (q : Nat) (h : ∀ r ∈ L, r.length ≤ q) : (frs L).length ≤ L.length * (q + 6) := by
  induction L with
  | nil => simp [frs]
  | cons r L ih =>
    have := ih fun x hx => h x (by simp [hx])
    have := h r (by simp)
    rw [frs_cons, List.length_append, frm_length, List.length_cons, Nat.succ_mul]
    omega

theorem info_int8 : (Try.prog.info? 3).map (fun i => (i.zero, i.size, i.bytes)) = some (some (.int .i64 0), 1, 8) := by kernel_rfl

/-- Two rows: of ints, and of texts. -/
structure TW (base : Nat) (w0 : World) (ve va : Value) (E T : List Value) (u : World) : Prop where
  e : u.ownsRow base 3 1 ve E.length E
  t : u.ownsRow base 9 1 va T.length T
  bel : Below base w0 u
  sz : base ≤ u.heap.size

section
variable {base : Nat} {w0 u u' : World} {ve va : Value} {E T : List Value}
theorem TW.nil (h : Below base w0 u) (hs : base ≤ u.heap.size) : TW base w0 (.slice none 0 0) (.slice none 0 0) [] [] u := ⟨World.ownsRow_nil _ _ _ _, World.ownsRow_nil _ _ _ _, h, hs⟩
theorem TW.on (h : TW base w0 ve va E T u) (hb : Below u.heap.size u u') : TW base w0 ve va E T u' :=
  ⟨ownsRow_on h.e fun b hb' => hb.block b (h.e.lt b hb').2, ownsRow_on h.t fun b hb' => hb.block b (h.t.lt b hb').2, h.bel.trans (hb.mono h.sz), Nat.le_trans h.sz hb.size⟩
theorem TW.alloc (h : TW base w0 ve va E T u) (o : Obj) : TW base w0 ve va E T (u.alloc o) := h.on ((Below.refl _ _).alloc (Nat.le_refl _) _)
theorem TW.drew (h : TW base w0 ve va E T u) : TW base w0 ve va E T u.drew := h.on ⟨rfl, rfl, rfl, Nat.le_refl _, fun _ _ => rfl⟩
theorem TW.shape (h : TW base w0 ve va E T u) : (∃ a c, ve = .slice a E.length c) ∧ (∃ a c, va = .slice a T.length c) := ⟨own_shape h.e, own_shape h.t⟩
theorem TW.growE (h : TW base w0 ve va E T u) {v' x : Value} (ho : u'.ownsRow base 3 1 v' (E.length + 1) (E ++ [x])) (hg : u.grownBy u' ve.ownBlock) : TW base w0 v' va (E ++ [x]) T u' :=
  ⟨by rw [List.length_append, List.length_singleton]; exact ho, ownsRow_on h.t fun b hb => hg.block b (h.t.lt b hb).2 (fun e => row_not h.t h.e (by decide) b hb e.symm), h.bel.grown hg h.sz (fun b hb => (h.e.lt b hb).1), Nat.le_trans h.sz hg.size⟩
theorem TW.growT (h : TW base w0 ve va E T u) {v' x : Value} (ho : u'.ownsRow base 9 1 v' (T.length + 1) (T ++ [x])) (hg : u.grownBy u' va.ownBlock) : TW base w0 ve v' E (T ++ [x]) u' :=
  ⟨ownsRow_on h.e fun b hb => hg.block b (h.e.lt b hb).2 (fun e => row_not h.e h.t (by decide) b hb e.symm), by rw [List.length_append, List.length_singleton]; exact ho, h.bel.grown hg h.sz (fun b hb => (h.t.lt b hb).1), Nat.le_trans h.sz hg.size⟩
/-- A block of another kind stands while a row grows. -/
theorem block_of {n : Nat} {e e' : TypeId} {s k : Nat} {v : Value} {xs : List Value} (h : u.ownsRow n e s v k xs) (hg : u.grownBy u' v.ownBlock) {p : Nat} {cs : Array Value} (hp : u.heap[p]? = some (.cells cs e' (0, 0))) (hne : e' ≠ e) : u'.heap[p]? = some (.cells cs e' (0, 0)) := by
  refine (hg.block p (lt_of_block hp) fun he => ?_).trans hp
  rcases h.2 with ⟨rfl, _⟩ | ⟨g, cap, cur, rfl, _, hgb, _⟩
  · simp [Value.ownBlock] at he
  · simp only [Value.ownBlock, Option.some.injEq] at he
    subst he
    rw [hp] at hgb
    simp at hgb
    exact hne hgb.2
theorem src_blk (t e : TypeId) (ht : Try.prog.underlying t = some (.slice e)) {p : Nat} {x : Value} (hp : u.heap[p]? = some (.cells #[x] e (0, 0))) (h1 : x.oneCell' = true) : Src Try.prog 1 t (.slice (some ⟨p, 0, none⟩) 1 1) 1 [x] u :=
  Src.ofSlice _ ht ⟨p, 0, none⟩ 1 1 [x] rfl
    (by intro j y hj; match j, hj with | 0, hj => simp at hj; subst hj; rw [Addr.add_lit]; simp [World.cell?, hp])
    (by intro y hy; simp at hy; subst hy; exact h1)
end

/-- A text as bytes: a new row. -/
theorem conv_bytes (u : World) (l : List UInt8) (hl : l.length ≤ maxLen) : ∃ c u', (convert 9 22 (.string ⟨l.toArray⟩)).run Try.prog u = .ok (.slice (some ⟨u.heap.size, 0, none⟩) l.length c) u' ∧
    Byt u' u'.heap.size (.slice (some ⟨u.heap.size, 0, none⟩) l.length c) l ∧ (∀ j, j < l.length → u'.frozen? ⟨u.heap.size, j, none⟩ = false) ∧ Below u.heap.size u u' := by
  have hs : (ByteArray.mk l.toArray).size = l.length := List.size_toArray
  have hr := Lib.run_convert_string_bytes (P := Try.prog) u 9 22 5 ⟨l.toArray⟩ Try.underlying9 Try.underlying22 Try.underlying5
  rw [hs] at hr
  refine ⟨_, _, hr, ?_, fun j hj => ?_, ?_⟩
  · refine ⟨_, _, rfl, grownCap_ge u l.length 0 5, grownCap_le_maxLen u l.length 0 5 hl, fun e => by simp at e, fun _ => ⟨_, _, rfl, by rw [Lib.bytesWorld_size]; omega, fun j hj => ?_⟩⟩
    rw [Nat.zero_add]
    exact Lib.bytesWorld_cell u 5 ⟨l.toArray⟩ j (by rw [hs]; exact hj)
  · have hn := Lib.bytesWorld_at_new u 5 ⟨l.toArray⟩
    have hz : l.length ≤ (Lib.bytesCells u 5 ⟨l.toArray⟩).size := by
      simp [Lib.bytesCells]
    simp [World.frozen?, hn]
    omega
  · exact ⟨rfl, rfl, rfl, by rw [Lib.bytesWorld_size]; omega, fun k hk => Lib.bytesWorld_at_old u 5 ⟨l.toArray⟩ k hk⟩

/-- Frame of any record answers. -/
theorem frame_some (v : Value) (B : Nat) (l : List UInt8) (w : World) (hB : Byt w B v l) (hBw : B ≤ w.heap.size) : Calls Try.prog 9 #[v] w fun e w' => ∃ a n c x, e = .returned (.tuple #[.slice a n c, .int .i64 x]) ∧ Below w.heap.size w w' := by
  obtain ⟨ao, cap, rfl, _⟩ := id hB
  by_cases h : okR l
  · refine (frame_yes _ _ l w hB hBw h).mono ?_
    rintro e w' ⟨a, c, rfl, _, h2⟩
    exact ⟨a, _, c, 0, rfl, h2⟩
  · refine (frame_no ao l.length cap w (by unfold okR at h; omega)).mono ?_
    rintro e w' ⟨rfl, rfl⟩
    exact ⟨none, 0, 0, 1, rfl, Below.refl _ _⟩

/-- Where the cut falls. -/
theorem cut_at (L : List (List UInt8)) (k m : Nat) (hok : ∀ r ∈ L, okR r) (hm : m ≤ L.length) (h1 : (frs (L.take m)).length ≤ k) (h2 : m = L.length ∨ k < (frs (L.take (m + 1))).length) : ∃ rest, (frs L).take k = frs (L.take m) ++ rest ∧ firstR rest = none := by
  obtain ⟨j, rest, hj, e, h0, hi⟩ := frs_cut L k hok
  have a1 := (hi m hm).1 h1
  have a2 : j ≤ m := by
    rcases h2 with h2 | h2
    · omega
    · rcases Nat.lt_or_ge m L.length with hlt | hge
      · have := hi (m + 1) (by omega)
        omega
      · omega
  obtain rfl : j = m := by omega
  exact ⟨rest, e, h0⟩

/-- Read of frames and what is none behind. -/
theorem read_frames (v : Value) (bl : List UInt8) (M : List (List UInt8)) (rest : List UInt8) (u : World) (hB : Byt u u.heap.size v bl) (he : bl = frs M ++ rest) (h0 : firstR rest = none) (hok : ∀ r ∈ M, okR r) (hlim : bl.length ≤ 1000000) :
    Calls Try.prog 11 #[v] u fun e u' => ∃ v', e = .returned (.tuple #[v', .int .i64 (((frs M).length : Nat) : Int)]) ∧ (∃ a c, v' = .slice a M.length c) ∧ Hid (BytsAt u' u'.heap.size v' M) ∧ Below u.heap.size u u' := by
  refine (wread_any v _ bl u hB (Nat.le_refl _) (by omega)).mono ?_
  rintro e u' ⟨L, m, hr, v', rfl, h1, h2⟩
  have hu := Rds.of hok h0
  rw [← he] at hu
  obtain ⟨rfl, rfl⟩ := hr.unique hu
  exact ⟨v', rfl, h1.shape, h1.at, h2⟩

theorem to_str (s : ByteArray) (j : Nat) (y : Int) (hy : y = j) (hj : j ≤ s.size) (u : World) :
    (Instr.sliceAt 9 (.string s) none (some (.int .i64 y)) none).run Try.prog u = .ok (.string ⟨(s.data.toList.take j).toArray⟩) u ∧
    (Instr.slice 9 (.string s) none (some (.int .i64 y)) none).run Try.prog u = .ok (.string ⟨(s.data.toList.take j).toArray⟩) u := by
  subst hy
  have h : (Instr.slice 9 (.string s) none (some (.int .i64 (j : Int))) none).run Try.prog u = .ok (.string ⟨(s.data.toList.take j).toArray⟩) u := by
    rw [run_slice_string_h u 9 s Try.underlying9 .i64 j (by omega) (by omega)]
    have := ByteArray.extract_mk s.data.toList 0 j
    rw [str_eq] at this
    rw [show ((j : Nat) : Int).toNat = j from rfl, this]
    simp
  exact ⟨(run_sliceAt_string u 9 _ _ _ _ Try.underlying9).trans h, h⟩
theorem size_str (u : World) : (sizeOf (Try.prog.elem 30)).run Try.prog u = .ok 1 u := by kernel_rfl
theorem size_bytes (u : World) : (sizeOf (Try.prog.elem 27)).run Try.prog u = .ok 1 u := by kernel_rfl

theorem add_frames (L : List (List UInt8)) (i : Nat) (h : i < L.length) (hs : (frs (L.take i)).length ≤ 1000000) (hr : (L.getD i []).length ≤ 1000000) (u : World) :
    (Op.stringOp .add ⟨(frs (L.take i)).toArray⟩ ⟨(frm (L.getD i [])).toArray⟩).run Try.prog u = .ok (.string ⟨(frs (L.take (i + 1))).toArray⟩) u := by
  have h1 : (ByteArray.mk (frs (L.take i)).toArray).size = (frs (L.take i)).length := List.size_toArray
  have h2 : (ByteArray.mk (frm (L.getD i [])).toArray).size = (frm (L.getD i [])).length := List.size_toArray
  rw [run_string_add_sum u _ _ (by rw [h1, h2, frm_length]; omega)]
  congr 2
  apply ByteArray.ext
  rw [take_snoc' L i h, frs_append, frs_one]
  simp [ByteArray.data_append]

/-- A byte put into bytes that a slice holds. -/
theorem byt_put {w : World} {B b off cap k : Nat} {l : List UInt8} (h : Byt w B (.slice (some ⟨b, off, none⟩) l.length cap) l) (hk : k < l.length) (y : UInt8) :
    Byt (w.setCell ⟨b, off + k, none⟩ (.int .u8 y.toNat)) B (.slice (some ⟨b, off, none⟩) l.length cap) (l.set k y) := by
  obtain ⟨ao, cap', he, h1, h2, h3, h4⟩ := h
  simp only [Value.slice.injEq] at he
  obtain ⟨rfl, _, rfl⟩ := he
  obtain ⟨b', off', he, hb, hc⟩ := h4 (fun e => by rw [e] at hk; simp at hk)
  simp only [Option.some.injEq, Addr.mk.injEq, and_true] at he
  obtain ⟨rfl, rfl⟩ := he
  refine ⟨_, _, by rw [List.length_set], by rw [List.length_set]; exact h1, h2, fun e => by simp at e, fun _ => ⟨_, _, rfl, hb, fun j hj => ?_⟩⟩
  rw [List.length_set] at hj
  by_cases hjk : j = k
  · subst hjk
    rw [World.cell?_setCell_same w _ _ (hc j hj)]
    simp [List.getD, hj]
  · rw [World.cell?_setCell_other w _ _ _ (by simp), hc j hj]
    simp [List.getD, Ne.symm hjk]

/-- A byte of frames that is turned, in its frame. -/
theorem turned_in (L : List (List UInt8)) (k m : Nat) (y : UInt8) (hm : m < L.length) (h1 : (frs (L.take m)).length ≤ k) (h2 : k < (frs (L.take (m + 1))).length) :
    k - (frs (L.take m)).length < (frm (L.getD m [])).length ∧ (frs L).getD k 0 = (frm (L.getD m [])).getD (k - (frs (L.take m)).length) 0 ∧
    (frs L).set k y = frs (L.take m) ++ ((frm (L.getD m [])).set (k - (frs (L.take m)).length) y ++ frs (L.drop (m + 1))) := by
  have e : frs L = frs (L.take m) ++ (frm (L.getD m []) ++ frs (L.drop (m + 1))) := by
    conv => lhs; rw [← List.take_append_drop (m + 1) L, frs_append, take_snoc' L m hm, frs_append, frs_one, List.append_assoc]
  rw [take_snoc' L m hm, frs_append, frs_one, List.length_append] at h2
  have hlt : k - (frs (L.take m)).length < (frm (L.getD m [])).length := by omega
  generalize L.getD m [] = r at e h2 hlt ⊢
  refine ⟨hlt, ?_, ?_⟩
  · rw [e]
    simp only [List.getD]
    rw [List.getElem?_append_right h1, List.getElem?_append_left hlt]
  · conv => lhs; rw [e]
    rw [List.set_append_right _ _ h1, List.set_append_left _ _ hlt]
theorem frs_pos (L : List (List UInt8)) (h : 0 < L.length) : 0 < (frs L).length := by
  match L, h with
  | r :: L, _ => rw [frs_cons, List.length_append, frm_length]; omega
end Go.Proofs.Ytpmigpgkicacpaa
