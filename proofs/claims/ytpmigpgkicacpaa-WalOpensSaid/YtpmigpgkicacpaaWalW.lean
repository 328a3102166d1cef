/-
  THE PROGRAM's SMALL CALLS OF PACKAGE wal: mayBeRecord, putNum, num. No condition.
-/
import Derived.Test.YtpmigpgkicacpaaPackC
import Derived.Test.YtpmigpgkicacpaaWalMath
import Derived.Test.YtpmigpgkicacpaaDiskW
import Derived.IntWalk
namespace Go.Proofs.Ytpmigpgkicacpaa
open Go.RowKit

set_option maxHeartbeats 400000 in
theorem mayrec_yes (a : Option Addr) (n c : Nat) (w : World) (h1 : 1 ≤ n) (h2 : n ≤ 4096) : Calls Try.prog 23 #[.slice a n c] w fun e w' => e = .returned (.bool true) ∧ w = w' := by
  have hd : decide ((n : Int) ≤ 4096) = true := decide_eq_true (by omega)
  go_enter Try.func23, Try.ntmps23
  go_wp2
  go_returns
  exact ⟨rfl, rfl⟩
set_option maxHeartbeats 400000 in
theorem mayrec_no (a : Option Addr) (n c : Nat) (w : World) (h : n < 1 ∨ 4096 < n) : Calls Try.prog 23 #[.slice a n c] w fun e w' => e = .returned (.bool false) ∧ w = w' := by
  rcases h with h | h
  · go_enter Try.func23, Try.ntmps23
    go_wp2
    go_returns
    exact ⟨rfl, rfl⟩
  · have hd : decide ((n : Int) ≤ 4096) = false := decide_eq_false (by omega)
    go_enter Try.func23, Try.ntmps23
    go_wp2
    go_returns
    exact ⟨rfl, rfl⟩

theorem or_byte (v : Nat) (c : UInt8) (hv : v < 16777216) : bits .or .u32 ((v : Int) * 256) (c.toNat : Int) = ((v * 256 + c.toNat : Nat) : Int) := by
  have hc := c.toNat_lt
  rw [show ((v : Int) * 256) = ((v * 256 : Nat) : Int) by omega, u32_or_nat _ _ (by omega) (by omega)]
  congr 1
  have := Nat.two_pow_add_eq_or_of_lt (i := 8) (b := c.toNat) (by omega) v
  rw [show (2 : Nat) ^ 8 * v = v * 256 by omega] at this
  exact this.symm

set_option maxHeartbeats 1000000 in
theorem num_any (v : Value) (B : Nat) (l : List UInt8) (w : World) (hB : Byt w B v l) (hl : l.length ≤ 4) :
    Calls Try.prog 35 #[v] w fun e w' => e = .returned (.int .u32 (numOf l)) ∧ w = w' := by
  have HB := Lib.hid hB
  obtain ⟨ao, cap, rfl, h1, h2, h3, h4⟩ := hB
  have HC : Hid (∀ k, k < l.length → ∃ b off, ao = some ⟨b, off, none⟩ ∧ w.cell? ⟨b, off + k, none⟩ = some (.int .u8 (l.getD k 0).toNat)) := fun k hk => by
    obtain ⟨b, off, e, _, hc⟩ := h4 (fun e => by subst e; simp at hk)
    exact ⟨b, off, e, hc k hk⟩
  obtain ⟨n, hn⟩ : ∃ n, n = l.length := ⟨_, rfl⟩
  obtain ⟨R, hR⟩ : ∃ R, R = numOf l := ⟨_, rfl⟩
  rw [← hn] at hl HC ⊢
  rw [← hR]
  have HN := Lib.hid hn
  have HR := Lib.hid hR
  clear hn hR h1 h2 h3 h4 HB
  go_enter Try.func35, Try.ntmps35
  go_wp2
  go_loop [3, 8] (fun vs vi => ∃ k s : Nat, k ≤ n ∧ vi = .int .i64 k ∧ vs = .int .u32 s ∧ s = numOf (l.take k)) (fun _ vi => n - (intOf vi).toNat)
  case atStart => exact ⟨0, 0, by omega, rfl, rfl, rfl⟩
  case round =>
    obtain ⟨k, s, hk, rfl, rfl, hs⟩ := hrel
    have HS := Lib.hid hs
    clear hs
    by_cases hlt : k < n
    · obtain ⟨b, off, rfl, hc⟩ := HC.out k hlt
      have hsl : s < 16777216 := by
        rw [HS.out]
        have h := numOf_lt (l.take k)
        have h3 : (l.take k).length ≤ 3 := by rw [List.length_take]; omega
        exact Nat.lt_of_lt_of_le h (Nat.pow_le_pow_right (by omega) h3 : 256 ^ (l.take k).length ≤ 256 ^ 3)
      have HO := Lib.hid (or_byte s (l.getD k 0) hsl)
      have hc256 := (l.getD k 0).toNat_lt
      have HT : Hid (numOf (l.take (k + 1)) = s * 256 + (l.getD k 0).toNat) := by
        show _ = _
        rw [HS.out, List.take_succ_eq_append_getElem (by rw [← HN.out]; exact hlt), numOf_snoc]
        simp [List.getD, show k < l.length by rw [← HN.out]; exact hlt]
      generalize (l.getD k 0).toNat = c at hc hc256 HO HT
      go_wp2
      go_round
      case rel => exact ⟨k + 1, s * 256 + c, by omega, by go_num, by rw [HO.out], HT.out.symm⟩
      case measure => simp [intOf]; omega
    · have HE : Hid (R = s) := by
        show _ = _
        rw [HR.out, HS.out, List.take_of_length_le (by rw [← HN.out]; omega)]
      go_wp2
      go_returns
      exact ⟨ret_u32 (by rw [HE.out]), rfl⟩

theorem byte_of (x j : Nat) : (x : Int) / 2 ^ (j * 8) % 256 = ((UInt8.ofNat (x / 256 ^ j)).toNat : Int) := by
  rw [UInt8.toNat_ofNat']
  have e : (2 : Int) ^ (j * 8) = ((256 ^ j : Nat) : Int) := by
    rw [Nat.mul_comm, Int.pow_mul]
    exact (Int.natCast_pow 256 j).symm
  rw [e]
  omega

set_option maxHeartbeats 2000000 in
theorem putnum_any (v : Value) (base x size : Nat) (xs : List UInt8) (w : World) (hown : w.ownsRow base 5 1 v xs.length (Lib.byteCells xs)) (hbase : base ≤ w.heap.size) (_ : x < 4294967296) (hs : size ≤ 4) (hl : xs.length ≤ 1000000) :
    Calls Try.prog 24 #[v, .int .u32 x, .int .i64 size] w fun e w' => ∃ v', e = .returned v' ∧ w'.ownsRow base 5 1 v' (xs ++ bes x size size).length (Lib.byteCells (xs ++ bes x size size)) ∧ Below base w w' := by
  obtain ⟨i0, hi, hz0, hz1, hz2⟩ := info_parts info_u8
  have HW := Lib.hid hown
  clear hown
  go_enter Try.func24, Try.ntmps24
  go_wp2
  go_loopw [0, 7] (fun vb vi wr => ∃ k : Nat, k ≤ size ∧ vi = .int .i64 ((size : Int) - 1 - k) ∧ wr.ownsRow base 5 1 vb (xs ++ bes x size k).length (Lib.byteCells (xs ++ bes x size k)) ∧ Below base w wr)
    (fun _ vi _ => (intOf vi + 1).toNat)
  case atStart => exact ⟨0, by omega, by simp, by simpa [bes] using HW.out, Below.refl _ _⟩
  case round =>
    obtain ⟨k, hk, rfl, hown, hnx⟩ := hrel
    have hsz := hnx.size
    have hbl : (xs ++ bes x size k).length ≤ xs.length + 4 := by rw [List.length_append, bes_length]; omega
    by_cases hlt : k < size
    · obtain ⟨j, hj⟩ : ∃ j : Nat, size - 1 - k = j := ⟨_, rfl⟩
      have hj' : (size : Int) - 1 - k = (j : Int) := by omega
      have HJ : Hid ((j : Int) - 1 = (size : Int) - 1 - ((k + 1 : Nat) : Int)) := by show _ = _; omega
      have hby := byte_of x j
      obtain ⟨c, hc⟩ : ∃ c, c = UInt8.ofNat (x / 256 ^ j) := ⟨_, rfl⟩
      have HB : Hid (xs ++ bes x size (k + 1) = (xs ++ bes x size k) ++ [c]) := by show _ = _; rw [hc, ← hj, bes_succ x size k, List.append_assoc]
      rw [← hc] at hby
      rw [hj']
      have hj3 : j ≤ 3 := by omega
      have s1 : IntKind.i64.wrap ((j : Int) * 8) = (j : Int) * 8 := IntWalk.i64_in _ (by omega)
      clear hj hj' hc
      generalize xs ++ bes x size k = pre at *
      go_wp2_with (at_builtin; refine wpList_append_own_src rfl (.tmp 14) (.tmp 20) 22 22 rfl base 5 i0 (.int .u8 0) 1 1 Try.underlying22 hi hz0 hz1 hz2 rfl _ _ _ rfl (hown.alloc _) _ 1 [Value.int .u8 c.toNat] rfl (src_one wr _ _ rfl) ?c3 ?c4 ?c5 ?_)
      case c3 => unfold maxLen; omega
      case c4 => omega
      case c5 => simp; omega
      intro v' w1 hown' hgrow
      have H2 : Below base w w1 := (hnx.alloc (by omega) _).grown hgrow (by simp; omega) (fun k hk => (hown.lt k hk).1)
      go_wp2
      go_roundw
      case rel =>
        refine ⟨k + 1, by omega, by rw [HJ.out], ?_, H2⟩
        rw [HB.out, show Lib.byteCells (pre ++ [c]) = Lib.byteCells pre ++ [Value.int .u8 c.toNat] from List.map_append .., List.length_append, List.length_singleton]
        exact hown'
      case measure => simp [intOf]
    · obtain rfl : k = size := by omega
      have hm : (k : Int) - 1 - k = -1 := by omega
      rw [hm]
      go_wp2
      go_returns
      exact ⟨_, rfl, hown, hnx⟩

/-- Two results: a slice and a number. -/
def TellsF (xs : List UInt8) (w : World) (e : Ending) (w' : World) : Prop :=
  ∃ a c, e = .returned (.tuple #[.slice a xs.length c, .int .i64 0]) ∧ w'.ownsRow w.heap.size 5 1 (.slice a xs.length c) xs.length (Lib.byteCells xs) ∧ Below w.heap.size w w'

set_option maxHeartbeats 2000000 in
theorem frame_yes (v : Value) (B : Nat) (l : List UInt8) (w : World) (hB : Byt w B v l) (hBw : B ≤ w.heap.size) (hl : okR l) :
    Calls Try.prog 9 #[v] w (TellsF (frm l) w) := by
  obtain ⟨i0, hi, hz0, hz1, hz2⟩ := info_parts info_u8
  obtain ⟨hl1, hl2⟩ := hl
  have HB := Lib.hid hB
  obtain ⟨ao, cap, rfl, _⟩ := hB
  obtain ⟨n, hn⟩ : ∃ n, n = l.length := ⟨_, rfl⟩
  rw [← hn] at HB hl1 hl2 ⊢
  have HF : Hid (frm l = bes n 2 2 ++ bes (crcOf l) 4 4 ++ l) := by show _ = _; rw [hn]; rfl
  have hcl := crcOf_lt l
  have HC : Hid (∀ u : World, Below w.heap.size w u → Calls Try.prog 25 #[.slice ao n cap] u fun e w' => e = .returned (.int .u32 (crcOf l)) ∧ Below u.heap.size u w') :=
    fun u hu => crc_any _ B l u (HB.out.keep (hu.mono hBw)) (Nat.le_trans hBw hu.size) (by omega)
  have HS : Hid (∀ u : World, Below w.heap.size w u → Src Try.prog 1 22 (.slice ao n cap) l.length (Lib.byteCells l) u) := fun u hu => src_bytes (HB.out.keep (hu.mono hBw))
  obtain ⟨R, hR⟩ : ∃ R, R = crcOf l := ⟨_, rfl⟩
  rw [← hR] at HF hcl HC
  have HN := Lib.hid hn
  clear hn hR HB
  go_enter Try.func9, Try.ntmps9
  go_wp2_with (first
    | (go_at_call 23; refine (mayrec_yes _ _ _ _ hl1 hl2).mono ?_; rintro e w' ⟨rfl, rfl⟩)
    | (at_make; refine wpList_make_own _ rfl _ _ 22 rfl w.heap.size 5 i0 (.int .u8 0) 1 Try.underlying22 hi hz0 hz1 .i64 .i64 _ (6 + n) rfl rfl (by omega) (by rw [hz2]; omega) (by unfold maxLen; omega) (Nat.le_refl _) ?_; intro w0 hown0 hgrow0; have H0 := Lib.hid hown0; have hs0 := hgrow0.size; have B0 : Hid (Below w.heap.size w w0) := (Below.refl _ _).grown hgrow0 (Nat.le_refl _) (fun k h => by cases h); clear hown0 hgrow0)
    | fail)
  refine (putnum_any _ w.heap.size n 2 [] w0 H0.out hs0 (by omega) (by omega) (by simp)).mono ?_
  rintro e w1 ⟨v1, rfl, hr, hb⟩
  have B1 := Lib.hid (B0.out.trans hb)
  have hs1 := B1.out.size
  rw [List.nil_append] at hr
  have H1 := Lib.hid hr
  obtain ⟨a1, c1, rfl⟩ := own_shape hr
  clear hr hb B0 H0 hs0
  go_wp2_with fail
  refine (HC.out _ B1.out).mono ?_
  rintro e w2 ⟨rfl, hb⟩
  have H2 : Hid (w2.ownsRow w.heap.size 5 1 (.slice a1 (bes n 2 2).length c1) (bes n 2 2).length (Lib.byteCells (bes n 2 2))) := ownsRow_on H1.out fun b h => hb.block b (H1.out.lt b h).2
  have B2 := Lib.hid (B1.out.trans (hb.mono hs1))
  have hs2 := B2.out.size
  clear hb B1 H1 hs1
  go_wp2_with fail
  refine (putnum_any _ w.heap.size R 4 _ w2 H2.out hs2 hcl (by omega) (by rw [bes_length]; omega)).mono ?_
  rintro e w3 ⟨v1, rfl, hr, hb⟩
  have B3 := Lib.hid (B2.out.trans hb)
  have hs3 := B3.out.size
  have hl6 : (bes n 2 2 ++ bes R 4 4).length = 6 := by rw [List.length_append, bes_length, bes_length]
  generalize bes n 2 2 ++ bes R 4 4 = hd at hr hl6 HF
  have HL := Lib.hid hl6
  clear hl6
  have H3 := Lib.hid hr
  obtain ⟨a1, c1, rfl⟩ := own_shape hr
  clear hr hb B2 H2 hs2
  go_wp2_with (at_builtin; refine wpList_append_own_src rfl (.tmp 21) (.tmp 22) 22 22 rfl w.heap.size 5 i0 (.int .u8 0) 1 1 Try.underlying22 hi hz0 hz1 hz2 rfl _ _ _ rfl H3.out _ l.length (Lib.byteCells l) rfl (HS.out _ B3.out) ?c3 ?c4 ?c5 ?_)
  case c3 => have := HN.out; have := HL.out; unfold maxLen; omega
  case c4 => have := HN.out; have := HL.out; omega
  case c5 => exact hs3
  intro v' w4 hown hgrow
  have B4 := Lib.hid (B3.out.grown hgrow hs3 (fun k hk => (H3.out.lt k hk).1))
  have hfl : (frm l).length = hd.length + l.length := by rw [HF.out, List.length_append]
  rw [← hfl, ← show Lib.byteCells (frm l) = Lib.byteCells hd ++ Lib.byteCells l by rw [HF.out]; exact List.map_append ..] at hown
  have H4 := Lib.hid hown
  obtain ⟨a1, c1, rfl⟩ := own_shape hown
  clear hown hgrow H3 hs3 hfl
  go_wp2
  go_returns
  exact ⟨_, _, rfl, H4.out, B4.out⟩

set_option maxHeartbeats 400000 in
theorem frame_no (a : Option Addr) (n c : Nat) (w : World) (h : n < 1 ∨ 4096 < n) : Calls Try.prog 9 #[.slice a n c] w fun e w' => e = .returned (.tuple #[.slice none 0 0, .int .i64 1]) ∧ w = w' := by
  have H := Lib.hid h
  clear h
  go_enter Try.func9, Try.ntmps9
  go_wp2_with (go_at_call 23; refine (mayrec_no _ _ _ _ H.out).mono ?_; rintro e w' ⟨rfl, rfl⟩)
  go_returns
  exact ⟨rfl, rfl⟩
end Go.Proofs.Ytpmigpgkicacpaa
