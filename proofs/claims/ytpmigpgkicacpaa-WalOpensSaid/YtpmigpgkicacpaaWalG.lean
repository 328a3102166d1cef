/-
  THE REFERENCE's Frame and Read. Of texts below 2^47 bytes (Frame: of at most 65,535).
-/
import Derived.Lib.QuoteBits
import Derived.Test.YtpmigpgkicacpaaWalR
namespace Go.Proofs.Ytpmigpgkicacpaa
open Go.RowKit

theorem head_cells (n C : Nat) (hn : n ≤ 65535) (hC : C < 4294967296) : (Lib.byteCells [UInt8.ofNat (n / 256), UInt8.ofNat n, UInt8.ofNat (C / 16777216), UInt8.ofNat (C / 65536), UInt8.ofNat (C / 256), UInt8.ofNat C]).toArray =
    #[Value.int .u8 ((n : Int) / 256), Value.int .u8 ((n : Int) % 256), Value.int .u8 ((C : Int) / 16777216), Value.int .u8 ((C : Int) / 65536 % 256), Value.int .u8 ((C : Int) / 256 % 256), Value.int .u8 ((C : Int) % 256)] := by
  have e : ∀ (x : Nat) (y : Int), (x : Int) % 256 = y → Value.int .u8 ((UInt8.ofNat x).toNat : Int) = Value.int .u8 y := fun x y h => by
    rw [UInt8.toNat_ofNat', ← h]; rfl
  simp only [Lib.byteCells, List.map_cons, List.map_nil]
  rw [e _ ((n : Int) / 256) (by omega), e _ ((n : Int) % 256) (by omega), e _ ((C : Int) / 16777216) (by omega), e _ ((C : Int) / 65536 % 256) (by omega), e _ ((C : Int) / 256 % 256) (by omega), e _ ((C : Int) % 256) (by omega)]

set_option maxHeartbeats 1000000 in
theorem refframe_any (s : ByteArray) (w : World) (hs : s.size ≤ 65535) :
    Calls Try.prog 10 #[.string s] w fun e w' => e = .returned (.string ⟨(frm s.data.toList).toArray⟩) ∧ Below w.heap.size w w' := by
  have H := Lib.hid (refcrc_any s w (by omega))
  have hcl := crcOf_lt s.data.toList
  obtain ⟨C, hC⟩ : ∃ C, C = crcOf s.data.toList := ⟨_, rfl⟩
  rw [← hC] at H hcl
  have hk : (convert 22 9 (.slice (some ⟨w.heap.size, 0, none⟩) 6 6)).run Try.prog (w.alloc (.cells #[Value.int .u8 ((s.size : Int) / 256), Value.int .u8 ((s.size : Int) % 256), Value.int .u8 ((C : Int) / 16777216), Value.int .u8 ((C : Int) / 65536 % 256), Value.int .u8 ((C : Int) / 256 % 256), Value.int .u8 ((C : Int) % 256)] 5)) =
      .ok (.string ⟨(headOf s.data.toList).toArray⟩) (w.alloc (.cells #[Value.int .u8 ((s.size : Int) / 256), Value.int .u8 ((s.size : Int) % 256), Value.int .u8 ((C : Int) / 16777216), Value.int .u8 ((C : Int) / 65536 % 256), Value.int .u8 ((C : Int) / 256 % 256), Value.int .u8 ((C : Int) % 256)] 5)) := by
    have h := run_conv_byt (byt_lit w (headOf s.data.toList) 5 (0, 0) 6 (headOf_length _) (by decide))
    rw [headOf_eq, show s.data.toList.length = s.size from Array.length_toList, ← hC, head_cells s.size C hs hcl] at h
    rw [headOf_eq, show s.data.toList.length = s.size from Array.length_toList, ← hC]
    exact h
  have hl6 : (ByteArray.mk (headOf s.data.toList).toArray).size = 6 := by
    show (headOf s.data.toList).toArray.size = 6
    rw [List.size_toArray, headOf_length]
  have ha : ∀ u : World, (Op.stringOp .add ⟨(headOf s.data.toList).toArray⟩ s).run Try.prog u = .ok (.string ⟨(frm s.data.toList).toArray⟩) u := fun u => by
    rw [run_string_add_sum u _ _ (by rw [hl6]; omega)]
    have : (ByteArray.mk (headOf s.data.toList).toArray ++ s) = ⟨(frm s.data.toList).toArray⟩ := by
      apply ByteArray.ext
      simp [ByteArray.data_append, frm]
    rw [this]
  generalize (headOf s.data.toList).toArray = hd at hk ha
  clear hC hl6
  go_enter Try.func10, Try.ntmps10
  go_wp2_with fail
  refine H.out.mono ?_
  rintro e w1 ⟨rfl, rfl⟩
  go_wp2
  go_returns
  exact ⟨rfl, (Below.refl _ _).alloc (Nat.le_refl _) _⟩

theorem or_byte64 (v : Nat) (c : Nat) (hv : v < 256) (hc : c < 256) : bits .or .i64 ((v : Int) * 256) (c : Int) = ((v * 256 + c : Nat) : Int) := by
  rw [show ((v : Int) * 256) = ((v * 256 : Nat) : Int) by omega]
  show IntKind.i64.wrap ((BitVec.ofInt 64 ((v * 256 : Nat) : Int) ||| BitVec.ofInt 64 (c : Int)).toNat : Int) = _
  rw [BitVec.toNat_or, ofInt_u64 (v * 256) (by omega), ofInt_u64 c (by omega)]
  have := Nat.two_pow_add_eq_or_of_lt (i := 8) (b := c) (by omega) v
  rw [show (2 : Nat) ^ 8 * v = v * 256 by omega] at this
  rw [← this]
  exact Lib.wrap_i64_small _ (by omega)

/-- Frames ahead, and the rest of the bytes. -/
structure Ahead (bl : List UInt8) (L : List (List UInt8)) (m : Nat) : Prop where
  ok : ∀ r ∈ L, okR r
  len : m = (frs L).length
  split : bl = frs L ++ bl.drop m
theorem Ahead.le {bl : List UInt8} {L : List (List UInt8)} {m : Nat} (h : Ahead bl L m) : m ≤ bl.length := by
  rw [h.len]
  have := congrArg List.length h.split
  rw [List.length_append] at this
  omega
theorem Ahead.count {bl : List UInt8} {L : List (List UInt8)} {m : Nat} (h : Ahead bl L m) : L.length ≤ m := by
  rw [h.len]
  exact frs_many _ h.ok
theorem Ahead.next {bl : List UInt8} {L : List (List UInt8)} {m : Nat} (h : Ahead bl L m) {r : List UInt8} (hf : firstR (bl.drop m) = some r) : Ahead bl (L ++ [r]) (m + 6 + r.length) := by
  obtain ⟨h1, h2⟩ := firstR_some hf
  refine ⟨fun x hx => ?_, ?_, ?_⟩
  · rcases List.mem_append.1 hx with hx | hx
    · exact h.ok x hx
    · rw [List.mem_singleton.1 hx]; exact h1
  · rw [frs_append, frs_one, List.length_append, frm_length, ← h.len]; omega
  · rw [frs_append, frs_one, Nat.add_assoc, ← List.drop_drop, List.append_assoc, ← h2]
    exact h.split
theorem Ahead.done {bl : List UInt8} {L : List (List UInt8)} {m : Nat} (h : Ahead bl L m) (hf : firstR (bl.drop m) = none) : Rds bl L m := ⟨h.ok, ⟨_, h.split, hf⟩, h.len⟩

/-- Two bytes, and the frame that they tell. -/
theorem first_of {bl : List UInt8} {m : Nat} (h6 : 6 ≤ bl.length - m) {S : Nat} (hS : S = (bl.getD m 0).toNat * 256 + (bl.getD (m + 1) 0).toNat) :
    (S < 1 ∨ 4096 < S ∨ bl.length - m - 6 < S → firstR (bl.drop m) = none) ∧
    (1 ≤ S → S ≤ 4096 → S ≤ bl.length - m - 6 → ((frm ((bl.drop (m + 6)).take S) = (bl.drop m).take (6 + S) ∧ firstR (bl.drop m) = some ((bl.drop (m + 6)).take S)) ∨ (frm ((bl.drop (m + 6)).take S) ≠ (bl.drop m).take (6 + S) ∧ firstR (bl.drop m) = none))) := by
  have hl : (bl.drop m).length = bl.length - m := List.length_drop
  have hn : numOf ((bl.drop m).take 2) = S := by
    obtain ⟨b0, b1, b2, b3, b4, b5, t, e⟩ := six_of (show 6 ≤ (bl.drop m).length by omega)
    have g0 : bl.getD m 0 = b0 := by
      have := congrArg (fun l : List UInt8 => l.getD 0 0) e
      simpa [List.getD] using this
    have g1 : bl.getD (m + 1) 0 = b1 := by
      have := congrArg (fun l : List UInt8 => l.getD 1 0) e
      simpa [List.getD] using this
    rw [e, hS, g0, g1]
    exact num2 b0 b1
  have h := firstR_six' (b := bl.drop m) (by omega)
  rw [hn, hl, List.drop_drop] at h
  refine ⟨fun hh => by rw [h, if_neg (by omega)], fun h1 h2 h3 => ?_⟩
  have hr : ((bl.drop (m + 6)).take S).length = S := by rw [List.length_take, List.length_drop]; omega
  by_cases he : frm ((bl.drop (m + 6)).take S) = (bl.drop m).take (6 + S)
  · refine .inl ⟨he, ?_⟩
    have := firstR_frm ((bl.drop (m + 6)).take S) ((bl.drop m).drop (6 + S)) ⟨by omega, by omega⟩
    rw [he, List.take_append_drop] at this
    exact this
  · refine .inr ⟨he, ?_⟩
    rw [h]
    refine if_neg fun hc => he ?_
    rw [if_pos hc] at h
    have h' := (firstR_some h).2
    generalize (bl.drop (m + 6)).take S = r at h' hr
    have := congrArg (List.take (6 + S)) h'
    rw [List.take_append_of_le_length (by rw [frm_length, hr]; exact Nat.le_refl _), List.take_of_length_le (l := frm r) (by rw [frm_length, hr]; exact Nat.le_refl _)] at this
    exact this.symm

theorem run_index_str (bl : List UInt8) (m : Nat) (x : Int) (hx : x = m) (h : m < bl.length) (u : World) : (Instr.index 9 (.string ⟨bl.toArray⟩) (.int .i64 x)).run Try.prog u = .ok (.int .u8 (bl.getD m 0).toNat) u := by
  subst hx
  have hs : (ByteArray.mk bl.toArray).size = bl.length := List.size_toArray
  rw [run_index_string u 9 _ _ _ Try.underlying9, dif_pos ⟨by omega, by rw [hs]; omega⟩]
  have e : (ByteArray.mk bl.toArray)[(m : Int).toNat]'(by rw [hs]; omega) = bl.getD m 0 := by
    have : bl.getD m 0 = bl[m] := by simp [List.getD, h]
    rw [this]
    rfl
  rw [e]

theorem str_eq (s : ByteArray) : (ByteArray.mk s.data.toList.toArray) = s := by cases s; rfl
theorem str_size (s : ByteArray) : s.data.toList.length = s.size := Array.length_toList
theorem index_str (s : ByteArray) (m : Nat) (x : Int) (hx : x = m) (h : m < s.size) (u : World) : (Instr.index 9 (.string s) (.int .i64 x)).run Try.prog u = .ok (.int .u8 (s.data.toList.getD m 0).toNat) u := by
  have := run_index_str s.data.toList m x hx (by rw [str_size]; exact h) u
  rwa [str_eq] at this
theorem sub_str (s : ByteArray) (i j : Nat) (x y : Int) (hx : x = i) (hy : y = j) (hij : i ≤ j) (hj : j ≤ s.size) (u : World) :
    (Instr.sliceAt 9 (.string s) (some (.int .i64 x)) (some (.int .i64 y)) none).run Try.prog u = .ok (.string ⟨((s.data.toList.drop i).take (j - i)).toArray⟩) u ∧
    (Instr.slice 9 (.string s) (some (.int .i64 x)) (some (.int .i64 y)) none).run Try.prog u = .ok (.string ⟨((s.data.toList.drop i).take (j - i)).toArray⟩) u := by
  subst hx hy
  have h : (Instr.slice 9 (.string s) (some (.int .i64 (i : Int))) (some (.int .i64 (j : Int))) none).run Try.prog u = .ok (.string ⟨((s.data.toList.drop i).take (j - i)).toArray⟩) u := by
    rw [run_slice_string_if u 9 s .i64 .i64 i j Try.underlying9, if_pos ⟨by omega, by omega⟩, if_pos ⟨by omega, by omega⟩]
    have := ByteArray.extract_mk s.data.toList i j
    rw [str_eq] at this
    rw [← this]
    rfl
  exact ⟨(run_sliceAt_string u 9 _ _ _ _ Try.underlying9).trans h, h⟩

theorem below_drewN' {w w' : World} {q : Nat} (h : Below (w.drewN q).heap.size (w.drewN q) w') : Below w.heap.size w w' := (⟨rfl, rfl, rfl, Nat.le_refl _, fun _ _ => rfl⟩ : Below w.heap.size w (w.drewN q)).trans h

/-- Texts as cells. -/
def strCells (L : List (List UInt8)) : List Value := L.map fun l => .string ⟨l.toArray⟩
theorem strCells_snoc (L : List (List UInt8)) (r : List UInt8) : strCells (L ++ [r]) = strCells L ++ [.string ⟨r.toArray⟩] := by simp [strCells]
theorem src_str (w : World) (d : ByteArray) : Src Try.prog 1 30 (.slice (some ⟨w.heap.size, 0, none⟩) 1 1) 1 [.string d] (w.alloc (.cells #[.string d] 9)) :=
  Src.ofSlice _ Try.underlying30 ⟨w.heap.size, 0, none⟩ 1 1 [.string d] rfl
    (by intro j u hj; match j, hj with | 0, hj => simp at hj; subst hj; simp [Addr.add])
    (by intro u hu; simp at hu; subst hu; rfl)
theorem info_str8 : (Try.prog.info? 9).map (fun i => (i.zero, i.size, i.bytes)) = some (some (.string ⟨#[]⟩), 1, 16) := by kernel_rfl

/-- Texts and a place are told. -/
def TellsS (L : List (List UInt8)) (n : Nat) (w : World) (e : Ending) (w' : World) : Prop :=
  ∃ v, e = .returned (.tuple #[v, .int .i64 n]) ∧ w'.ownsRow w.heap.size 9 1 v L.length (strCells L) ∧ Below w.heap.size w w'

set_option maxRecDepth 100000 in
set_option maxHeartbeats 4000000 in
theorem refread_any (s : ByteArray) (w : World) (hlim : s.size ≤ 1000000) :
    Calls Try.prog 12 #[.string s] w fun e w' => ∃ L m, Rds s.data.toList L m ∧ TellsS L m w e w' := by
  obtain ⟨i0, hi, hz0, hz1, hz2⟩ := info_parts info_str8
  go_enter Try.func12, Try.ntmps12
  go_wp2
  go_loopw [4, 5] (fun vo vi wr => ∃ (L : List (List UInt8)) (m : Nat), vi = .int .i64 m ∧ Ahead s.data.toList L m ∧ wr.ownsRow w.heap.size 9 1 vo L.length (strCells L) ∧ Below w.heap.size w wr)
    (fun _ vi _ => s.size - (intOf vi).toNat)
  case atStart => exact ⟨[], 0, rfl, ⟨(fun r h => by cases h), rfl, rfl⟩, World.ownsRow_nil _ _ _ _, Below.refl _ _⟩
  case round =>
    obtain ⟨L, m, rfl, hA, hown, hb⟩ := hrel
    have hle := hA.le
    have hco := hA.count
    rw [str_size] at hle
    have hsz := hb.size
    have HA := Lib.hid hA
    obtain ⟨va, vc, rfl⟩ := own_shape hown
    clear hA
    have s1 : IntKind.i64.wrap ((s.size : Int) - (m : Int)) = (s.size : Int) - m := IntWalk.i64_in _ (by omega)
    by_cases h6 : s.size - m < 6
    · have HD : Hid (Rds s.data.toList L m) := HA.out.done (firstR_short (by rw [List.length_drop, str_size]; exact h6))
      have h6' : (s.size : Int) - (m : Int) < 6 := by omega
      clear s1
      go_wp2
      go_returns
      exact ⟨L, m, HD.out, _, rfl, hown, hb⟩
    · have hF := first_of (bl := s.data.toList) (m := m) (by rw [str_size]; omega) rfl
      rw [str_size] at hF
      have ix0 := index_str s m m rfl (by omega)
      have ix1 := index_str s (m + 1) ((m : Int) + 1) rfl (by omega)
      have hc0 := (s.data.toList.getD m 0).toNat_lt
      have hc1 := (s.data.toList.getD (m + 1) 0).toNat_lt
      have hor := or_byte64 (s.data.toList.getD m 0).toNat (s.data.toList.getD (m + 1) 0).toNat hc0 hc1
      generalize (s.data.toList.getD m 0).toNat = c0 at ix0 hc0 hor hF
      generalize (s.data.toList.getD (m + 1) 0).toNat = c1 at ix1 hc1 hor hF
      obtain ⟨S, hS⟩ : ∃ S, S = c0 * 256 + c1 := ⟨_, rfl⟩
      rw [← hS] at hor hF
      have hSl : S < 65536 := by omega
      have s2 : IntKind.i64.wrap ((m : Int) + 1) = (m : Int) + 1 := IntWalk.i64_in _ (by omega)
      have s3 : IntKind.i64.wrap ((c0 : Int) * 256) = (c0 : Int) * 256 := IntWalk.i64_in _ (by omega)
      have h6' : 6 ≤ (s.size : Int) - (m : Int) := by omega
      have HF := Lib.hid hF
      clear hF hS h6
      by_cases hB : S < 1 ∨ 4096 < S ∨ s.size - m - 6 < S
      · have HD : Hid (Rds s.data.toList L m) := HA.out.done (HF.out.1 hB)
        have s4 : IntKind.i64.wrap ((s.size : Int) - (m : Int) - 6) = (s.size : Int) - m - 6 := IntWalk.i64_in _ (by omega)
        rcases (show S < 1 ∨ (1 ≤ S ∧ 4096 < S) ∨ (1 ≤ S ∧ S ≤ 4096 ∧ (s.size : Int) - (m : Int) - 6 < (S : Int)) by omega) with hB | ⟨hB1, hB⟩ | ⟨hB1, hB2, hB⟩
        all_goals
          go_wp2_with fail
          go_quiet (fail)
          clear s1 s2 s3 s4 ix0 ix1 hor
          go_wp2
          go_returns
          exact ⟨L, m, HD.out, _, rfl, hown, hb.trans ⟨rfl, rfl, rfl, Nat.le_refl _, fun _ _ => rfl⟩⟩
      · have hB1 : 1 ≤ S := by omega
        have hB2 : S ≤ 4096 := by omega
        have hB3 : (S : Int) ≤ (s.size : Int) - (m : Int) - 6 := by omega
        have s4 : IntKind.i64.wrap ((s.size : Int) - (m : Int) - 6) = (s.size : Int) - m - 6 := IntWalk.i64_in _ (by omega)
        have s5 : IntKind.i64.wrap ((m : Int) + 6) = (m : Int) + 6 := IntWalk.i64_in _ (by omega)
        have s6 : IntKind.i64.wrap ((m : Int) + 6 + (S : Int)) = (m : Int) + 6 + S := IntWalk.i64_in _ (by omega)
        have k1 := fun u => sub_str s (m + 6) (m + 6 + S) ((m : Int) + 6) ((m : Int) + 6 + S) rfl rfl (by omega) (by omega) u
        have k2 := fun u => sub_str s m (m + 6 + S) (m : Int) ((m : Int) + 6 + S) rfl rfl (by omega) (by omega) u
        rw [show m + 6 + S - (m + 6) = S by omega] at k1
        rw [show m + 6 + S - m = 6 + S by omega] at k2
        have hF2 := HF.out.2 hB1 hB2 (by omega)
        have hrl : ((s.data.toList.drop (m + 6)).take S).length = S := by rw [List.length_take, List.length_drop, str_size]; omega
        have hnx : ∀ r, firstR (s.data.toList.drop m) = some r → Ahead s.data.toList (L ++ [r]) (m + 6 + r.length) := fun r hr => HA.out.next hr
        have hdn : firstR (s.data.toList.drop m) = none → Rds s.data.toList L m := fun hr => HA.out.done hr
        generalize (s.data.toList.drop (m + 6)).take S = r at k1 hF2 hrl
        generalize (s.data.toList.drop m).take (6 + S) = q at k2 hF2
        have HFr := Lib.hid fun u => refframe_any ⟨r.toArray⟩ u (by show r.toArray.size ≤ _; rw [List.size_toArray]; omega)
        rw [show (ByteArray.mk r.toArray).data.toList = r from rfl] at HFr
        generalize hf : frm r = f at HFr hF2
        have e1 := fun u => (k1 u).1
        have e2 := fun u => (k2 u).1
        have g1 := fun u => (k1 u).2
        have g2 := fun u => (k2 u).2
        clear k1 k2 hB hf
        rcases hF2 with ⟨he, hr⟩ | ⟨he, hr⟩
        · have HN := Lib.hid (hnx _ hr)
          have heq : (f == q) = true := by simp [he]
          have HRL := Lib.hid hrl
          clear hnx hdn he hr hrl
          go_wp2_with fail
          go_quiet (fail)
          clear ix0 ix1 hor s3
          go_wp2_with fail
          go_region_with ((go_at_call 10; (with_reducible refine (HFr.out _).mono ?_); rintro e w5 ⟨rfl, hb5⟩; have B5 := Lib.hid hb5; clear hb5))
          have hB5 : Below w.heap.size w w5 := hb.trans ((below_drewN' B5.out).mono hsz)
          have hown5 : w5.ownsRow w.heap.size 9 1 (.slice va L.length vc) L.length (strCells L) := ownsRow_on hown fun b hbk => (below_drewN' B5.out).block b (hown.lt b hbk).2
          have hs5 := hB5.size
          clear e1 e2 g1 g2 hb hown
          go_wp2_with (at_builtin; refine wpList_append_own_src rfl (.tmp 57) (.tmp 59) 30 30 rfl w.heap.size 9 i0 (.string ⟨#[]⟩) 1 16 Try.underlying30 hi hz0 hz1 hz2 rfl _ _ _ rfl (hown5.alloc _) _ 1 [Value.string ⟨r.toArray⟩] rfl (src_str w5 _) (by unfold maxLen; omega) (by omega) (by simp; omega) ?_; intro v' w6 hown6 hgrow; have H6 := Lib.hid hown6; have B6 : Hid (Below w.heap.size w w6) := (hB5.alloc hs5 _).grown hgrow (by simp; omega) (fun k hk => (hown5.lt k hk).1); clear hown6 hgrow)
          go_roundw
          case rel =>
            refine ⟨L ++ [r], m + 6 + S, by go_num, by have := HN.out; rwa [HRL.out] at this, ?_, B6.out⟩
            rw [strCells_snoc, List.length_append, List.length_singleton]
            exact H6.out
          case measure => simp [intOf]; omega
        · have HD := Lib.hid (hdn hr)
          have heq : (f == q) = false := by simpa using he
          clear hnx hdn he hr hrl
          go_wp2_with fail
          go_quiet (fail)
          clear ix0 ix1 hor s3
          go_wp2_with fail
          go_region_with ((go_at_call 10; (with_reducible refine (HFr.out _).mono ?_); rintro e w5 ⟨rfl, hb5⟩; have B5 := Lib.hid hb5; clear hb5))
          have hB5 : Below w.heap.size w w5 := hb.trans ((below_drewN' B5.out).mono hsz)
          have hown5 : w5.ownsRow w.heap.size 9 1 (.slice va L.length vc) L.length (strCells L) := ownsRow_on hown fun b hbk => (below_drewN' B5.out).block b (hown.lt b hbk).2
          clear e1 e2 g1 g2 hb hown
          go_wp2
          go_returns
          exact ⟨L, m, HD.out, _, rfl, hown5, hB5⟩
end Go.Proofs.Ytpmigpgkicacpaa
