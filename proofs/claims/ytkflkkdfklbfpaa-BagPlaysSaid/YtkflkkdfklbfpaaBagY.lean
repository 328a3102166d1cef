/-
  THOSE TO ONE IN A ROW: isTo, slices.IndexFunc, slices.DeleteFunc, lose, places. No condition but that lengths stay below a million.
-/
import Derived.Test.YtkflkkdfklbfpaaBagX
import Derived.Test.YtkflkkdfklbfpaaItemCV
namespace Go.Proofs.Ytkflkkdfklbfpaa
open Go.RowKit

/-- The function that tells those to one: the number stands in block p. -/
def ToF (p : Nat) : Value := .func (.func 27) #[] #[.pointer (some ⟨p, 0, none⟩)]

set_option maxHeartbeats 400000 in
theorem isTo_any (who : Int) (w : World) : Calls Try.prog 21 #[.int .i64 who] w fun e w' => e = .returned (ToF w.heap.size) ∧ w'.cell? ⟨w.heap.size, 0, none⟩ = some (.int .i64 who) ∧ w.heap.size < w'.heap.size ∧ w'.heap[w.heap.size]? = some (.cells #[.int .i64 who] 3 (0, 0)) ∧ Below w.heap.size w w' := by
  go_enter Try.func21, Try.ntmps21
  go_wp2
  go_returns
  exact ⟨rfl, by simp, by simp, heap_alloc_new w _, (Below.refl _ _).alloc (Nat.le_refl _) _⟩
set_option maxHeartbeats 400000 in
theorem isTo1_any (m : MsgV) (p : Nat) (who : Int) (w : World) (hc : w.cell? ⟨p, 0, none⟩ = some (.int .i64 who)) (hp : p < w.heap.size) :
    Calls Try.prog 27 #[.agg (msgC m).toArray, .pointer (some ⟨p, 0, none⟩)] w fun e w' => e = .returned (.bool (m.to == who)) ∧ Below w.heap.size w w' := by
  unfold msgC
  go_enter Try.func27, Try.ntmps27
  go_wp2
  go_returns
  exact ⟨rfl, (Below.refl _ _).alloc (Nat.le_refl _) _⟩

/-- The slice value v holds the messages L, in a block below B. -/
def Msgs (w : World) (B : Nat) (v : Value) (L : List MsgV) : Prop :=
  ∃ ao cap, v = .slice ao L.length cap ∧ L.length ≤ cap ∧ cap ≤ maxLen ∧
    (L ≠ [] → ∃ b off, ao = some ⟨b, off, none⟩ ∧ b < B ∧ ∀ j, j < L.length → w.cell? ⟨b, off + j * 3, none⟩ = some (.int .i64 (mAt L j).fr) ∧ w.cell? ⟨b, off + j * 3 + 1, none⟩ = some (.int .i64 (mAt L j).to) ∧ w.cell? ⟨b, off + j * 3 + 2, none⟩ = some (.string (mAt L j).tx))
theorem Rw.msgs {w : World} {n : Nat} {v : Value} {L : List MsgV} (H : Rw w n v L) : Msgs w w.heap.size v L := by
  rcases H with ⟨rfl, rfl⟩ | ⟨b, o, sp, pre, post, rfl, hb, hh, h1, h2, hm⟩
  · exact ⟨_, _, rfl, Nat.le_refl _, Nat.zero_le _, fun h => absurd rfl h⟩
  · exact ⟨_, _, rfl, by omega, hm, fun _ => ⟨b, o, rfl, lt_of_block hh, fun j hj => h1 ▸ row_cells hh j hj⟩⟩

/-- Where the first one to him stands, or -1. -/
def FirstTo (L : List MsgV) (who : Int) (i : Int) : Prop := (i = -1 ∧ ∀ m ∈ L, m.to ≠ who) ∨ ∃ A x C, L = A ++ x :: C ∧ i = (A.length : Int) ∧ x.to = who ∧ ∀ m ∈ A, m.to ≠ who
theorem mAt_mem {L : List MsgV} {j : Nat} (h : j < L.length) : mAt L j ∈ L := by
  unfold mAt; rw [List.getD_eq_getElem?_getD, List.getElem?_eq_getElem h]; exact List.getElem_mem h
theorem mem_mAt {L : List MsgV} {m : MsgV} (h : m ∈ L) : ∃ j, j < L.length ∧ mAt L j = m := by
  obtain ⟨j, hj, rfl⟩ := List.getElem_of_mem h
  exact ⟨j, hj, by unfold mAt; rw [List.getD_eq_getElem?_getD, List.getElem?_eq_getElem hj]; rfl⟩
theorem mAt_take {L : List MsgV} {j k : Nat} (h : j < k) : mAt (L.take k) j = mAt L j := by
  unfold mAt; rw [List.getD_eq_getElem?_getD, List.getD_eq_getElem?_getD, List.getElem?_take, if_pos h]

set_option maxHeartbeats 4000000 in
theorem idxfunc_any {w : World} {v : Value} {L : List MsgV} (H : Msgs w w.heap.size v L) (hlim : L.length ≤ 1000000) (p : Nat) (who : Int) (hp : w.cell? ⟨p, 0, none⟩ = some (.int .i64 who)) (hpl : p < w.heap.size) :
    Calls Try.prog 30 #[v, ToF p] w fun e w' => (∃ i, e = .returned (.int .i64 i) ∧ FirstTo L who i) ∧ Below w.heap.size w w' := by
  obtain ⟨ao, cap, rfl, h1, h2, h3⟩ := H
  obtain ⟨len, hlen⟩ : ∃ len, len = L.length := ⟨_, rfl⟩
  rw [← hlen]
  have HL := Lib.hid hlen
  have HC := Lib.hid h3
  have HP := Lib.hid hp
  have hlim' : len ≤ 1000000 := by omega
  clear h1 h2 h3 hp hlen hlim
  unfold ToF
  go_enter Try.func30, Try.ntmps30
  go_wp2_with fail
  go_loopw [5, 8] (fun _ s8 wr => ∃ k : Nat, s8 = .int .i64 k ∧ k ≤ len ∧ Below w.heap.size w wr ∧ ∀ j, j < k → (mAt L j).to ≠ who) (fun _ s8 _ => len - (intOf s8).toNat)
  case atStart => exact ⟨0, rfl, Nat.zero_le _, Below.refl _ _, fun j hj => absurd hj (Nat.not_lt_zero _)⟩
  case round =>
    obtain ⟨k, rfl, hk, hb, hno⟩ := hrel
    have HB := Lib.hid hb
    have HN := Lib.hid hno
    clear hno
    by_cases hlt : k < len
    · obtain ⟨b, off, rfl, hbw, hc⟩ := HC.out (List.length_pos_iff.1 (by have := HL.out; omega))
      obtain ⟨q0, q1, q2⟩ := hc k (by have := HL.out; omega)
      have q0 := (hb.cell (p := ⟨b, off + k * 3, none⟩) hbw).trans q0
      have q1 := (hb.cell (p := ⟨b, off + k * 3 + 1, none⟩) hbw).trans q1
      have q2 := (hb.cell (p := ⟨b, off + k * 3 + 2, none⟩) hbw).trans q2
      have HI := Lib.hid (isTo1_any (mAt L k) p who wr ((hb.cell (p := ⟨p, 0, none⟩) hpl).trans HP.out) (Nat.lt_of_lt_of_le hpl hb.size))
      have k1 : (k : Int) < (len : Int) := by omega
      have HB2 := Lib.hid (fun w' (h : Below wr.heap.size wr w') => hb.trans (h.mono hb.size))
      clear hc hb
      cases hq : ((mAt L k).to == who) with
      | true =>
        rw [hq] at HI
        go_wp2_with fail
        refine HI.out.mono ?_
        rintro e w2 ⟨rfl, hb2⟩
        go_wp2
        go_returns
        refine ⟨⟨_, rfl, .inr ⟨L.take k, mAt L k, L.drop (k + 1), split_at L k (by have := HL.out; omega), ?_, by simpa using hq, fun m hm => ?_⟩⟩, HB2.out _ hb2⟩
        · rw [List.length_take, Nat.min_eq_left (by have := HL.out; omega)]
        · obtain ⟨j, hj, rfl⟩ := mem_mAt hm
          rw [List.length_take] at hj
          rw [mAt_take (by omega)]
          exact HN.out j (by omega)
      | false =>
        rw [hq] at HI
        go_wp2_with fail
        refine HI.out.mono ?_
        rintro e w2 ⟨rfl, hb2⟩
        have HB3 := Lib.hid (HB2.out _ hb2)
        clear hb2
        go_wp2
        go_roundw
        case rel =>
          refine ⟨k + 1, by go_num, by omega, HB3.out, fun j hj => ?_⟩
          rcases Nat.lt_succ_iff_lt_or_eq.1 hj with h | rfl
          · exact HN.out j h
          · simpa using hq
        case measure => simp [intOf]; omega
    · have hle : (len : Int) ≤ (k : Int) := by omega
      clear hb
      go_wp2
      go_returns
      refine ⟨⟨_, rfl, .inl ⟨rfl, fun m hm => ?_⟩⟩, HB.out⟩
      obtain ⟨j, hj, rfl⟩ := mem_mAt hm
      exact HN.out j (by have := HL.out; omega)

theorem set_mid (pre post : List Value) (a x : Value) : ((pre ++ a :: post).toArray.setIfInBounds pre.length x) = (pre ++ x :: post).toArray := by
  apply Array.ext'
  simp
/-- A message is stored over another one. -/
theorem set3_row {w : World} {b q : Nat} {pre post : List Value} {m : MsgV} {T : TypeId} (h : w.heap[b]? = some (.cells (pre ++ msgC m ++ post).toArray T (0, 0))) (hq : pre.length = q) (y : MsgV) :
    (((w.setCell ⟨b, q, none⟩ (.int .i64 y.fr)).setCell ⟨b, q + 1, none⟩ (.int .i64 y.to)).setCell ⟨b, q + 2, none⟩ (.string y.tx)).heap[b]? = some (.cells (pre ++ msgC y ++ post).toArray T (0, 0)) := by
  have e0 : pre ++ msgC m ++ post = pre ++ (.int .i64 m.fr) :: (.int .i64 m.to :: .string m.tx :: post) := by simp [msgC]
  rw [e0] at h
  have h1 := heap_setCell_same _ _ q _ _ (.int .i64 y.fr) h
  rw [← hq, set_mid, show pre ++ Value.int .i64 y.fr :: (.int .i64 m.to :: .string m.tx :: post) = (pre ++ [.int .i64 y.fr]) ++ .int .i64 m.to :: (.string m.tx :: post) by simp, hq] at h1
  have h2 := heap_setCell_same _ _ (q + 1) _ _ (.int .i64 y.to) h1
  rw [show q + 1 = (pre ++ [Value.int .i64 y.fr]).length by simp [hq], set_mid, show (pre ++ [Value.int .i64 y.fr]) ++ .int .i64 y.to :: (.string m.tx :: post) = (pre ++ [.int .i64 y.fr, .int .i64 y.to]) ++ .string m.tx :: post by simp, show (pre ++ [Value.int .i64 y.fr]).length = q + 1 by simp [hq]] at h2
  have h3 := heap_setCell_same _ _ (q + 2) _ _ (.string y.tx) h2
  rw [show q + 2 = (pre ++ [Value.int .i64 y.fr, .int .i64 y.to]).length by simp [hq], set_mid, show (pre ++ [Value.int .i64 y.fr, .int .i64 y.to]).length = q + 2 by simp [hq]] at h3
  rw [h3]
  simp [msgC]

/-- Those that are not to him. -/
def rest (L : List MsgV) (who : Int) : List MsgV := L.filter fun m => !(m.to == who)

/-- How far the deletion has come: K stays, M is written over, R is yet to be looked at. -/
structure Del (b : Nat) (pre post : List Value) (L : List MsgV) (who : Int) (w0 : World) (i j : Nat) (w : World) (K M R : List MsgV) : Prop where
  row : w.heap[b]? = some (.cells (pre ++ rowC (K ++ M ++ R) ++ post).toArray 58 (0, 0))
  k : K.length = i
  m : K.length + M.length = j
  pos : M ≠ []
  keep : rest L who = K ++ rest R who
  len : K.length + M.length + R.length = L.length
  only : Only (· = b) w0 w

set_option maxHeartbeats 4000000 in
set_option maxRecDepth 100000 in
theorem delfunc_any {w : World} {b o sp : Nat} {pre post : List Value} (L : List MsgV) (hh : w.heap[b]? = some (.cells (pre ++ rowC L ++ post).toArray 58 (0, 0))) (ho : pre.length = o) (hm : L.length + sp ≤ maxLen) (hlim : L.length ≤ 1000000)
    (p : Nat) (who : Int) (hp : w.heap[p]? = some (.cells #[.int .i64 who] 3 (0, 0))) :
    Calls Try.prog 28 #[.slice (some ⟨b, o, none⟩) L.length (L.length + sp), ToF p] w fun e w' =>
      e = .returned (.slice (some ⟨b, o, none⟩) (rest L who).length (L.length + sp)) ∧ (∃ zs, (rest L who).length * 3 + zs.length = L.length * 3 ∧ w'.heap[b]? = some (.cells (pre ++ rowC (rest L who) ++ (zs ++ post)).toArray 58 (0, 0))) ∧ Only (· = b) w w' := by
  have hpb : ¬ p = b := fun e => by subst e; have := hp.symm.trans hh; simp at this
  have hpl := lt_of_block hp
  have hbl := lt_of_block hh
  have hpc : w.cell? ⟨p, 0, none⟩ = some (.int .i64 who) := by simp [World.cell?, hp]
  have hM : Msgs w w.heap.size (.slice (some ⟨b, o, none⟩) L.length (L.length + sp)) L := ⟨_, _, rfl, by omega, hm, fun _ => ⟨b, o, rfl, hbl, fun j hj => ho ▸ row_cells hh j hj⟩⟩
  have HI := Lib.hid (idxfunc_any hM hlim p who hpc hpl)
  obtain ⟨len, hlen⟩ : ∃ len, len = L.length := ⟨_, rfl⟩
  rw [← hlen] at HI hm hlim ⊢
  have HL := Lib.hid hlen
  have HH := Lib.hid hh
  have HP := Lib.hid hp
  have HO := Lib.hid ho
  clear hh hp hpc hM hlen ho
  unfold ToF at HI ⊢
  go_enter Try.func28, Try.ntmps28
  go_wp2_with fail
  refine HI.out.mono ?_
  rintro e w1 ⟨⟨i, rfl, hi⟩, hb1⟩
  clear HI
  rcases hi with ⟨rfl, hno⟩ | ⟨A, x, C, hL, rfl, hx, hA⟩
  · have HB := Lib.hid hb1
    have hr : rest L who = L := List.filter_eq_self.2 fun m hm => by simpa using hno m hm
    have HR := Lib.hid hr
    clear hb1 hr hno
    go_wp2
    go_returns
    rw [HR.out, ← HL.out]
    exact ⟨rfl, ⟨[], by simp, by rw [HB.out.block b hbl, HH.out]; simp⟩, .of HB.out⟩
  · have HD : Hid (Del b pre post L who w A.length (A.length + 1) w1 A [x] C) := by
      refine ⟨?_, rfl, rfl, by simp, ?_, ?_, .of hb1⟩
      · rw [hb1.block b hbl, HH.out, hL]; simp
      · rw [hL]; simp [rest, hx]; exact fun m hm => by simpa using hA m hm
      · rw [hL]; simp; omega
    have hAl : A.length < len := by rw [HL.out, hL]; simp
    generalize hn : A.length = n at HD hAl ⊢
    clear hL hx hA hb1 hn
    have n1 : ((n : Int) == -1) = false := beq_eq_false_iff_ne.2 (by omega)
    go_wp2_with fail
    go_loopw [5, 6, 7] (fun s5 s6 _ wr => ∃ (i j : Nat) (K M R : List MsgV), s5 = .int .i64 i ∧ s6 = .int .i64 j ∧ i < j ∧ j ≤ len ∧ Del b pre post L who w i j wr K M R) (fun _ s6 _ _ => len - (intOf s6).toNat)
    case atStart => exact ⟨n, n + 1, A, [x], C, rfl, by go_num, by omega, by omega, HD.out⟩
    case round =>
      obtain ⟨i, j, K, M, R, rfl, rfl, hij, hj, hd⟩ := hrel
      have hwl := hd.only.size
      have hpc : wr.cell? ⟨p, 0, none⟩ = some (.int .i64 who) := by have := (hd.only.block p hpl hpb).trans HP.out; simp [World.cell?, this]
      have hlenK := hd.len
      have hk := hd.k
      have hm' := hd.m
      have hRl : K.length + M.length + R.length = len := by have := HL.out; omega
      have HD2 := Lib.hid hd
      clear HD
      by_cases hlt : j < len
      · obtain ⟨y, R', rfl⟩ : ∃ y R', R = y :: R' := by
          cases R with
          | nil => simp at hRl; omega
          | cons y R' => exact ⟨y, R', rfl⟩
        have hc := row_cells hd.row j (by rw [List.length_append, List.length_append]; simp at hRl ⊢; omega)
        rw [HO.out, show mAt (K ++ M ++ y :: R') j = y by unfold mAt; rw [List.getD_eq_getElem?_getD, List.getElem?_append_right (by rw [List.length_append]; omega)]; simp [List.length_append, hm']] at hc
        obtain ⟨q0, q1, q2⟩ := hc
        have hc2 := row_cells hd.row i (by rw [List.length_append, List.length_append]; simp at hRl ⊢; omega)
        rw [HO.out] at hc2
        obtain ⟨r0, r1, r2⟩ := hc2
        have hbw : b < wr.heap.size := lt_of_block hd.row
        have hpw : p < wr.heap.size := by omega
        have HI := Lib.hid (fun (u : World) (hb : Below wr.heap.size wr u) => isTo1_any y p who u ((hb.cell (p := ⟨p, 0, none⟩) hpw).trans hpc) (Nat.lt_of_lt_of_le hpw hb.size))
        have j1 : (j : Int) < (len : Int) := by omega
        have i1 : (i : Int) < (len : Int) := by omega
        have fz : ∀ k, wr.frozen? ⟨b, k, none⟩ = false := fun k => by simp [World.frozen?, hd.row]
        have HFZ := Lib.hid fz
        have HR0 := Lib.hid r0
        have HR1 := Lib.hid r1
        have HR2 := Lib.hid r2
        clear hd r0 r1 r2 fz hpc hlenK
        cases hq : (y.to == who) with
        | true =>
          rw [hq] at HI
          go_wp2_with fail
          refine (HI.out _ (by go_grown)).mono ?_
          rintro e w2 ⟨rfl, hb2⟩
          have B2 := Lib.hid ((show Below wr.heap.size wr _ by go_grown).trans (hb2.mono (by simp)))
          clear hb2
          go_wp2
          go_roundw
          case rel =>
            have hd := HD2.out
            refine ⟨i, j + 1, K, M ++ [y], R', rfl, by go_num, by omega, by omega, ⟨?_, hd.k, ?_, by simp, ?_, ?_, hd.only.then (.of B2.out) fun _ _ h => h⟩⟩
            · rw [B2.out.block b hbw, hd.row]; simp
            · rw [List.length_append, ← hd.m]; simp; omega
            · rw [hd.keep]; simp [rest, hq]
            · have := hd.len; simp at this ⊢; omega
          case measure => simp [intOf]; omega
        | false =>
          rw [hq] at HI
          obtain ⟨m0, M', rfl⟩ : ∃ m0 M', M = m0 :: M' := by
            cases M with
            | nil => exact absurd rfl HD2.out.pos
            | cons m0 M' => exact ⟨m0, M', rfl⟩
          go_wp2_with fail
          refine (HI.out _ (by go_grown)).mono ?_
          rintro e w2 ⟨rfl, hb2⟩
          have hB := (show Below wr.heap.size wr _ by go_grown).trans (hb2.mono (by simp))
          have x0 : w2.cell? ⟨wr.heap.size, 0, none⟩ = some (.int .i64 y.fr) := (hb2.cell (by simp)).trans (by simp)
          have x1 : w2.cell? ⟨wr.heap.size, 1, none⟩ = some (.int .i64 y.to) := (hb2.cell (by simp)).trans (by simp)
          have x2 : w2.cell? ⟨wr.heap.size, 2, none⟩ = some (.string y.tx) := (hb2.cell (by simp)).trans (by simp)
          have r0 := (hB.cell (p := ⟨b, o + i * 3, none⟩) hbw).trans HR0.out
          have r1 := (hB.cell (p := ⟨b, o + i * 3 + 1, none⟩) hbw).trans HR1.out
          have r2 := (hB.cell (p := ⟨b, o + i * 3 + 2, none⟩) hbw).trans HR2.out
          have f0 := (hB.frozen (p := ⟨b, o + i * 3, none⟩) hbw).trans (HFZ.out _)
          have f1 := (hB.frozen (p := ⟨b, o + i * 3 + 1, none⟩) hbw).trans (HFZ.out _)
          have f2 := (hB.frozen (p := ⟨b, o + i * 3 + 2, none⟩) hbw).trans (HFZ.out _)
          have B2 := Lib.hid hB
          clear hb2 hB q0 q1 q2
          go_wp2
          go_roundw
          case rel =>
            have hd := HD2.out
            have hrow : w2.heap[b]? = some (.cells ((pre ++ rowC K) ++ msgC m0 ++ (rowC M' ++ (rowC (y :: R') ++ post))).toArray 58 (0, 0)) := by
              rw [B2.out.block b hbw, hd.row]; simp [rowC_append, rowC_cons, List.append_assoc]
            have hs := set3_row hrow (q := o + i * 3) (by rw [List.length_append, rowC_length, HO.out, hd.k]) y
            refine ⟨i + 1, j + 1, K ++ [y], M' ++ [y], R', by go_num, by go_num, by omega, by omega, ⟨?_, ?_, ?_, by simp, ?_, ?_, (hd.only.then (.of B2.out) fun _ _ h => h).then ((((Only.set b _ w2 _).trans (Only.set b _ _ _)).trans (Only.set b _ _ _))) fun _ _ h => h⟩⟩
            · rw [hs]; simp [rowC_append, rowC_cons, List.append_assoc]
            · rw [List.length_append, hd.k]; rfl
            · have := hd.m; simp at this ⊢; omega
            · rw [hd.keep]; simp [rest, hq]
            · have := hd.len; simp at this ⊢; omega
          case measure => simp [intOf]; omega
      · have hR0 : R = [] := List.eq_nil_of_length_eq_zero (by omega)
        subst hR0
        have hle : (len : Int) ≤ (j : Int) := by omega
        have hr : rest L who = K := by rw [hd.keep]; simp [rest]
        have hrow : wr.heap[b]? = some (.cells ((pre ++ rowC K) ++ rowC M ++ post).toArray 58 (0, 0)) := by rw [hd.row]; simp [rowC_append, List.append_assoc]
        have hMl : M.length = len - i := by omega
        obtain ⟨zs, hz, hcl⟩ := run_clear3 b (o + i * 3) (len - i) (pre ++ rowC K) (rowC M) post (by omega) hrow (by rw [List.length_append, rowC_length, HO.out, hk]) (by rw [rowC_length, hMl])
        obtain ⟨w3, hw3, hh3, ho3⟩ : ∃ w3, w3 = wr.setRow b (pre ++ rowC K ++ zs ++ post).toArray ∧ w3.heap[b]? = some (.cells (pre ++ rowC K ++ zs ++ post).toArray 58 (0, 0)) ∧ Only (· = b) wr w3 :=
          ⟨_, rfl, setRow_heap wr b _ _ 58 _ hrow, ⟨rfl, rfl, rfl, by simp, fun k _ hk => setRow_other wr b k _ hk⟩⟩
        rw [← hw3] at hcl
        have H3 := Lib.hid hh3
        have HO3 := Lib.hid (hd.only.trans ho3)
        have HK := Lib.hid hk
        have HRK := Lib.hid hr
        have HZ := Lib.hid hz
        have j1 : ¬ (len + sp = i) := by omega
        have j2 : (i : Int) ≤ (len : Int) := by omega
        have j3 : (i : Int) ≤ (len : Int) + (sp : Int) := by omega
        clear hd hw3 hh3 ho3 hk hr hz hrow hMl hpc hlenK hRl hm'
        go_wp2
        go_returns
        refine ⟨by rw [HRK.out, HK.out]; rfl, ⟨zs, ?_, ?_⟩, HO3.out⟩
        · rw [HRK.out, HK.out, HZ.out]; omega
        · rw [H3.out, HRK.out]; simp [List.append_assoc]

set_option maxHeartbeats 1000000 in
theorem delfunc_nil (w : World) (p : Nat) (who : Int) (hp : w.cell? ⟨p, 0, none⟩ = some (.int .i64 who)) (hpl : p < w.heap.size) :
    Calls Try.prog 28 #[.slice none 0 0, ToF p] w fun e w' => e = .returned (.slice none 0 0) ∧ Below w.heap.size w w' := by
  have HI := Lib.hid (idxfunc_any (L := []) (v := .slice none 0 0) ⟨_, _, rfl, Nat.le_refl _, Nat.zero_le _, fun h => absurd rfl h⟩ (Nat.zero_le _) p who hp hpl)
  clear hp
  unfold ToF at HI ⊢
  go_enter Try.func28, Try.ntmps28
  go_wp2_with fail
  refine HI.out.mono ?_
  rintro e w1 ⟨⟨i, rfl, hi⟩, hb1⟩
  have hi1 : i = -1 := by
    rcases hi with ⟨h, _⟩ | ⟨A, x, C, h, _⟩
    · exact h
    · simp at h
  subst hi1
  clear hi
  go_wp2
  go_returns
  exact ⟨rfl, hb1⟩

theorem ownsRow_at {w w' : World} {base : Nat} {e : TypeId} {size : Nat} {v : Value} {n : Nat} {xs : List Value} (h : w.ownsRow base e size v n xs) (hb : Below w.heap.size w w') : w'.ownsRow base e size v n xs := by
  refine ⟨h.1, ?_⟩
  rcases h.2 with h0 | ⟨g, cap, cur, rfl, hr, hh, rest⟩
  · exact .inl h0
  · exact .inr ⟨g, cap, cur, rfl, hr, (hb.block g (lt_of_block hh)).trans hh, rest⟩

theorem rest_le (L : List MsgV) (who : Int) : (rest L who).length ≤ L.length := List.length_filter_le _ _

set_option maxHeartbeats 2000000 in
/-- All to one are taken out. -/
theorem rwlose_any {w : World} {n g : Nat} {v : Value} {L : List MsgV} (H : Bg w n g v L) (hlim : L.length ≤ 1000000) (p : Nat) (who : Int) (hp : w.heap[p]? = some (.cells #[.int .i64 who] 3 (0, 0))) :
    Calls Try.prog 22 #[.pointer (some ⟨g, 0, none⟩), ToF p] w fun e w' => e = .returned (.int .i64 ((L.length : Int) - (rest L who).length)) ∧ BR n g v (rest L who) w w' := by
  obtain ⟨c0, z0⟩ := H.cells
  have hgl := H.lt
  have hpl := lt_of_block hp
  have hpc : w.cell? ⟨p, 0, none⟩ = some (.int .i64 who) := by simp [World.cell?, hp]
  have HH := Lib.hid H
  -- what the deletion leaves: a row of the rest
  have HD : Hid (∃ a c, Calls Try.prog 28 #[v, ToF p] w fun e w' => e = .returned (.slice a (rest L who).length c) ∧ Rw w' n (.slice a (rest L who).length c) (rest L who) ∧ Only (rblk v) w w') := by
    rcases H.row with ⟨rfl, rfl⟩ | ⟨b, o, sp, pre, post, rfl, hb, hh, h1, h2, hm⟩
    · exact ⟨none, 0, (delfunc_nil w p who hpc hpl).mono fun e w' ⟨he, hb⟩ => ⟨he, .inl ⟨rfl, rfl⟩, .of hb⟩⟩
    · refine ⟨some ⟨b, o, none⟩, L.length + sp, (delfunc_any L hh h1 hm hlim p who hp).mono ?_⟩
      rintro e w' ⟨rfl, ⟨zs, hz, hh'⟩, ho⟩
      have hle := rest_le L who
      refine ⟨rfl, .inr ⟨b, o, L.length + sp - (rest L who).length, pre, zs ++ post, ?_, hb, hh', h1, ?_, ?_⟩, ho.mono fun x _ hx => ?_⟩
      · rw [show (rest L who).length + (L.length + sp - (rest L who).length) = L.length + sp by omega]
      · rw [List.length_append, h2]; omega
      · omega
      · subst hx; exact ⟨_, _, _, rfl⟩
  obtain ⟨la, lc, hv, _⟩ := H.shape
  subst hv
  have hle := rest_le L who
  generalize L.length = len at *
  obtain ⟨a, c, hd⟩ := HD.out
  generalize hk : (rest L who).length = k at *
  have HD2 := Lib.hid hd
  have i1 : IntKind.i64.wrap ((len : Int) - (k : Int)) = (len : Int) - (k : Int) := by rw [IntKind.wrap_i64]; omega
  clear H hp hpc HD hd
  unfold ToF at HD2 ⊢
  go_enter Try.func22, Try.ntmps22
  go_wp2_with fail
  refine HD2.out.mono ?_
  rintro e w2 ⟨rfl, hr, ho⟩
  have hg2 := (ho.block g hgl HH.out.ne).trans HH.out.blk
  have x2 : w2.cell? ⟨g, 0, none⟩ = some (.slice la len lc) := by simp [World.cell?, hg2]
  have z2 : w2.frozen? ⟨g, 0, none⟩ = false := by simp [World.frozen?, hg2]
  have HG := Lib.hid hg2
  have HR := Lib.hid hr
  have HO := Lib.hid ho
  clear hg2 hr ho HD2 c0 z0
  go_wp2
  go_returns
  exact ⟨rfl, _, Bg.set HG.out HR.out HH.out.low, (HO.out.mono fun x _ hx => .inr hx).then (Only.set g 0 _ _) fun x _ hx => .inl hx⟩

/-- The places of those to him, ahead of the k-th. -/
def toAt (L : List MsgV) (who : Int) (k : Nat) : List Int := ((List.range k).filter fun j => (mAt L j).to == who).map fun j : Nat => (j : Int)
theorem toAt_yes {L : List MsgV} {who : Int} {k : Nat} (h : ((mAt L k).to == who) = true) : toAt L who (k + 1) = toAt L who k ++ [(k : Int)] := by simp [toAt, List.range_succ, List.filter_append, h]
theorem toAt_no {L : List MsgV} {who : Int} {k : Nat} (h : ((mAt L k).to == who) = false) : toAt L who (k + 1) = toAt L who k := by simp [toAt, List.range_succ, List.filter_append, h]
theorem toAt_le (L : List MsgV) (who : Int) (k : Nat) : (toAt L who k).length ≤ k := by
  unfold toAt; rw [List.length_map]; exact Nat.le_trans (List.length_filter_le _ _) (by simp)
theorem ginfo_int : (Try.prog.info? 3).map (fun i => (i.zero, i.size, i.bytes)) = some (some (.int .i64 0), 1, 8) := by kernel_rfl
theorem gsrc1 (w : World) (x : Int) : Src Try.prog 1 22 (.slice (some ⟨w.heap.size, 0, none⟩) 1 1) 1 [.int .i64 x] (w.alloc (.cells #[.int .i64 x] 3)) :=
  Src.ofSlice _ Try.underlying22 ⟨w.heap.size, 0, none⟩ 1 1 [.int .i64 x] rfl
    (by intro j y hj; match j, hj with | 0, hj => simp at hj; subst hj; rw [Addr.add_lit]; simp)
    (by intro y hy; simp at hy; subst hy; rfl)

set_option maxHeartbeats 4000000 in
theorem rwplaces_any {w : World} {n g : Nat} {v : Value} {L : List MsgV} (H : Bg w n g v L) (hlim : L.length ≤ 1000000) (p : Nat) (who : Int) (hp : w.cell? ⟨p, 0, none⟩ = some (.int .i64 who)) (hpl : p < w.heap.size) :
    Calls Try.prog 20 #[.pointer (some ⟨g, 0, none⟩), ToF p] w fun e w' => ∃ v', e = .returned v' ∧ w'.ownsRow w.heap.size 3 1 v' (toAt L who L.length).length (intCells (toAt L who L.length)) ∧ Below w.heap.size w w' := by
  obtain ⟨i0, hi, hz0, hz1, hz2⟩ := info_parts ginfo_int
  obtain ⟨c0, z0⟩ := H.cells
  have HM := H.row.msgs
  obtain ⟨ao, cap, rfl, h1, h2, h3⟩ := HM
  obtain ⟨len, hlen⟩ : ∃ len, len = L.length := ⟨_, rfl⟩
  rw [← hlen] at c0 ⊢
  have HL := Lib.hid hlen
  have HC := Lib.hid h3
  have HP := Lib.hid hp
  have hlim' : len ≤ 1000000 := by omega
  clear h1 h2 h3 hp hlen hlim H z0
  unfold ToF
  go_enter Try.func20, Try.ntmps20
  go_wp2_with fail
  clear c0
  go_loopw [5, 13] (fun s5 s13 wr => ∃ (k m : Nat) (a : Option Addr) (c : Nat), s13 = .int .i64 k ∧ k ≤ len ∧ s5 = .slice a m c ∧ Hid (m = (toAt L who k).length) ∧ wr.ownsRow w.heap.size 3 1 (.slice a m c) m (intCells (toAt L who k)) ∧ Below w.heap.size w wr) (fun _ s13 _ => len - (intOf s13).toNat)
  case atStart => exact ⟨0, 0, none, 0, rfl, Nat.zero_le _, rfl, (show _ = _ from rfl), World.ownsRow_nil _ _ _ _, Below.refl _ _⟩
  case round =>
    obtain ⟨k, m, a, c, rfl, hk, rfl, HN, hrow, hb⟩ := hrel
    have HB := Lib.hid hb
    have HR := Lib.hid hrow
    clear hrow
    by_cases hlt : k < len
    · obtain ⟨b, off, rfl, hbw, hc⟩ := HC.out (List.length_pos_iff.1 (by have := HL.out; omega))
      obtain ⟨q0, q1, q2⟩ := hc k (by have := HL.out; omega)
      have q0 := (hb.cell (p := ⟨b, off + k * 3, none⟩) hbw).trans q0
      have q1 := (hb.cell (p := ⟨b, off + k * 3 + 1, none⟩) hbw).trans q1
      have q2 := (hb.cell (p := ⟨b, off + k * 3 + 2, none⟩) hbw).trans q2
      have HI := Lib.hid (fun (u : World) (hu : Below wr.heap.size wr u) => isTo1_any (mAt L k) p who u (((hb.trans (hu.mono hb.size)).cell (p := ⟨p, 0, none⟩) hpl).trans HP.out) (Nat.lt_of_lt_of_le (Nat.lt_of_lt_of_le hpl hb.size) hu.size))
      have k1 : (k : Int) < (len : Int) := by omega
      have hmk : m ≤ k := by have := HN.out; have := toAt_le L who k; omega
      clear hc hb
      cases hq : ((mAt L k).to == who) with
      | true =>
        rw [hq] at HI
        have HE := Lib.hid (toAt_yes hq)
        clear hq
        go_wp2_with fail
        refine (HI.out _ (by go_grown)).mono ?_
        rintro e w2 ⟨rfl, hb2⟩
        have B2 := Lib.hid ((show Below wr.heap.size wr _ by go_grown).trans (hb2.mono (by simp)))
        have R2 : Hid (w2.ownsRow w.heap.size 3 1 (.slice a m c) m (intCells (toAt L who k))) := ownsRow_at HR.out B2.out
        clear hb2
        go_wp2_with (at_builtin; refine wpList_append_own_src rfl (.tmp 21) (.tmp 23) 22 22 rfl w.heap.size 3 i0 (.int .i64 0) 1 8 Try.underlying22 hi hz0 hz1 hz2 rfl _ _ _ rfl (R2.out.alloc _) _ 1 [Value.int .i64 (k : Int)] rfl (gsrc1 w2 _) ?c3 ?c4 ?c5 ?_)
        case c3 => unfold maxLen; omega
        case c4 => omega
        case c5 => have := HB.out.size; have := B2.out.size; simp; omega
        intro v3 w3 h3 g3
        obtain ⟨a3, c3, rfl⟩ := own_shape h3
        have H3 := Lib.hid h3
        have G3 : Hid (Below w.heap.size w w3) := ((HB.out.trans (B2.out.mono HB.out.size)).alloc (by have := HB.out.size; have := B2.out.size; omega) _).grown g3 (by have := HB.out.size; have := B2.out.size; simp; omega) (fun b hb => (R2.out.lt b hb).1)
        clear h3 g3
        go_wp2
        go_roundw
        case rel => exact ⟨k + 1, m + 1, a3, c3, by go_num, by omega, rfl, (show _ = _ by rw [HE.out, List.length_append, HN.out]; rfl), by rw [HE.out, show intCells (toAt L who k ++ [(k : Int)]) = intCells (toAt L who k) ++ [Value.int .i64 (k : Int)] by simp [intCells]]; exact H3.out, G3.out⟩
        case measure => simp [intOf]; omega
      | false =>
        rw [hq] at HI
        have HE := Lib.hid (toAt_no hq)
        clear hq
        go_wp2_with fail
        refine (HI.out _ (by go_grown)).mono ?_
        rintro e w2 ⟨rfl, hb2⟩
        have B2 := Lib.hid ((show Below wr.heap.size wr _ by go_grown).trans (hb2.mono (by simp)))
        have R2 : Hid (w2.ownsRow w.heap.size 3 1 (.slice a m c) m (intCells (toAt L who k))) := ownsRow_at HR.out B2.out
        clear hb2
        go_wp2
        go_roundw
        case rel => exact ⟨k + 1, m, a, c, by go_num, by omega, rfl, (show _ = _ by rw [HE.out]; exact HN.out), by rw [HE.out]; exact R2.out, HB.out.trans (B2.out.mono HB.out.size)⟩
        case measure => simp [intOf]; omega
    · have hle : (len : Int) ≤ (k : Int) := by omega
      obtain rfl : k = len := by omega
      clear hb
      go_wp2
      go_returns
      exact ⟨_, rfl, by rw [← HN.out]; exact HR.out, HB.out⟩
end Go.Proofs.Ytkflkkdfklbfpaa
