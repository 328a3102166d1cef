/-
  THE LAWS' PACK: calls, rows of bytes, arguments. Merged by gen/cat.sh.
-/
import Derived.Laws.BitsAllLaws
import GoSem.Claim
import Derived.Test.YtpcbpimlakehcaaPackQ
import Derived.Lib.SlBytesConst
import Derived.ProofKit
import Derived.OpenShut
import Derived.ShutString
import Derived.ChangeOld
/-! ## PackCMath -/
/-
  CHECK SUMS AS A PLAIN FUNCTION: bit by bit, half byte by half byte, and that one byte that is turned turns the sum: no program, no condition.
-/
namespace Go.Proofs.Ytpcbpimlakehcaa

def crcP : Nat := 3988292384
/-- One bit. -/
def crc1 (s : Nat) : Nat := (s / 2) ^^^ (s % 2 * crcP)
def crcN : Nat → Nat → Nat
  | 0, s => s
  | n + 1, s => crcN n (crc1 s)
def crcT (i : Nat) : Nat := crcN 4 i
def crcNib (s : Nat) : Nat := (s / 16) ^^^ crcT (s % 16)
def nibs : Nat → Nat → Nat
  | 0, s => s
  | n + 1, s => nibs n (crcNib s)
def crcByte (s : Nat) (c : UInt8) : Nat := crcN 8 (s ^^^ c.toNat)
def crcFrom (s : Nat) (l : List UInt8) : Nat := l.foldl crcByte s
def crcOf (l : List UInt8) : Nat := 4294967295 - crcFrom 4294967295 l

theorem crcN_snoc : ∀ (n s : Nat), crcN (n + 1) s = crc1 (crcN n s)
  | 0, _ => rfl
  | n + 1, s => crcN_snoc n (crc1 s)

theorem crcN_add : ∀ (n m s : Nat), crcN (n + m) s = crcN m (crcN n s)
  | 0, m, s => by rw [Nat.zero_add]; rfl
  | n + 1, m, s => by rw [Nat.add_right_comm]; exact crcN_add n m (crc1 s)

theorem crc1_lt {s : Nat} (h : s < 4294967296) : crc1 s < 4294967296 := by
  have e : (4294967296 : Nat) = 2 ^ 32 := by decide
  rw [e] at h ⊢
  refine Nat.xor_lt_two_pow (by omega) ?_
  have : s % 2 = 0 ∨ s % 2 = 1 := by omega
  rcases this with h | h <;> rw [h] <;> decide

theorem crcN_lt : ∀ (n : Nat) {s : Nat}, s < 4294967296 → crcN n s < 4294967296
  | 0, _, h => h
  | n + 1, _, h => crcN_lt n (crc1_lt h)

theorem xor_half (a b : Nat) : (a ^^^ b) / 2 = (a / 2) ^^^ (b / 2) := by
  have := Nat.shiftRight_xor_distrib (a := a) (b := b) (i := 1)
  simpa [Nat.shiftRight_eq_div_pow] using this

theorem xor_odd (a b : Nat) : (a ^^^ b) % 2 = (a % 2) ^^^ (b % 2) := by
  have := Nat.xor_mod_two_pow (a := a) (b := b) (n := 1)
  simpa using this

theorem crc1_xor (a b : Nat) : crc1 (a ^^^ b) = crc1 a ^^^ crc1 b := by
  unfold crc1
  rw [xor_half, xor_odd]
  have ha : a % 2 = 0 ∨ a % 2 = 1 := by omega
  have hb : b % 2 = 0 ∨ b % 2 = 1 := by omega
  rcases ha with ha | ha <;> rcases hb with hb | hb <;> rw [ha, hb] <;> simp only [Nat.zero_mul, Nat.one_mul, Nat.xor_zero, Nat.zero_xor, Nat.xor_self]
  · rw [Nat.xor_assoc]
  · rw [Nat.xor_assoc, Nat.xor_comm (b / 2), ← Nat.xor_assoc]
  · rw [Nat.xor_assoc (a / 2), ← Nat.xor_assoc crcP, Nat.xor_comm crcP (b / 2), Nat.xor_assoc (b / 2), Nat.xor_self, Nat.xor_zero]

theorem crcN_xor : ∀ (n a b : Nat), crcN n (a ^^^ b) = crcN n a ^^^ crcN n b
  | 0, _, _ => rfl
  | n + 1, a, b => by
    show crcN n (crc1 (a ^^^ b)) = _
    rw [crc1_xor]
    exact crcN_xor n _ _

theorem crc1_even (q : Nat) : crc1 (2 * q) = q := by
  unfold crc1
  rw [show 2 * q % 2 = 0 by omega, show 2 * q / 2 = q by omega, Nat.zero_mul, Nat.xor_zero]

theorem crcN_sixteen (q : Nat) : crcN 4 (16 * q) = q := by
  show crc1 (crc1 (crc1 (crc1 (16 * q)))) = q
  rw [show 16 * q = 2 * (8 * q) by omega, crc1_even, show 8 * q = 2 * (4 * q) by omega, crc1_even, show 4 * q = 2 * (2 * q) by omega, crc1_even, crc1_even]

theorem split16 (s : Nat) : s = (16 * (s / 16)) ^^^ (s % 16) := by
  apply Nat.eq_of_testBit_eq
  intro i
  rw [Nat.testBit_xor, show (16 : Nat) = 2 ^ 4 by decide, Nat.testBit_two_pow_mul, Nat.testBit_mod_two_pow, Nat.testBit_div_two_pow]
  by_cases h : i < 4
  · simp [h, show ¬ 4 ≤ i by omega]
  · simp [h, show 4 ≤ i by omega]

theorem crcN_nib (s : Nat) : crcN 4 s = crcNib s := by
  conv => lhs; rw [split16 s]
  rw [crcN_xor, crcN_sixteen]
  rfl

theorem nibs_two (s : Nat) : nibs 2 s = crcN 8 s := by
  show crcNib (crcNib s) = _
  rw [← crcN_nib, ← crcN_nib, ← crcN_add]

theorem crcT_lt (i : Nat) (h : i < 16) : crcT i < 4294967296 := crcN_lt 4 (by omega)

theorem nib_lt {s : Nat} (h : s < 4294967296) : crcNib s < 4294967296 := by rw [← crcN_nib]; exact crcN_lt 4 h

theorem crcByte_lt {s : Nat} (c : UInt8) (h : s < 4294967296) : crcByte s c < 4294967296 := by
  refine crcN_lt 8 ?_
  have e : (4294967296 : Nat) = 2 ^ 32 := by decide
  have := c.toNat_lt
  rw [e] at h ⊢
  exact Nat.xor_lt_two_pow h (by omega)

theorem crcFrom_lt : ∀ (l : List UInt8) {s : Nat}, s < 4294967296 → crcFrom s l < 4294967296
  | [], _, h => h
  | c :: r, _, h => crcFrom_lt r (crcByte_lt c h)

theorem crcFrom_snoc (l : List UInt8) (c : UInt8) (s : Nat) : crcFrom s (l ++ [c]) = crcByte (crcFrom s l) c := by
  unfold crcFrom; rw [List.foldl_append]; rfl

theorem crc1_inj {a b : Nat} (ha : a < 4294967296) (hb : b < 4294967296) (h : crc1 a = crc1 b) : a = b := by
  have top : ∀ s : Nat, s < 4294967296 → (crc1 s).testBit 31 = decide (s % 2 = 1) := by
    intro s hs
    have e : (4294967296 : Nat) / 2 = 2 ^ 31 := by decide
    unfold crc1
    rw [Nat.testBit_xor, Nat.testBit_lt_two_pow (show s / 2 < 2 ^ 31 by omega)]
    have : s % 2 = 0 ∨ s % 2 = 1 := by omega
    rcases this with h | h <;> rw [h] <;> decide
  have h1 := top a ha
  rw [h, top b hb] at h1
  have hm : a % 2 = b % 2 := by
    have : (b % 2 = 1) ↔ (a % 2 = 1) := by simpa using h1
    omega
  unfold crc1 at h
  rw [hm] at h
  have h2 : a / 2 = b / 2 := by
    have h3 := congrArg (· ^^^ (b % 2 * crcP)) h
    simpa [Nat.xor_assoc] using h3
  omega

theorem crcN_inj : ∀ (n : Nat) {a b : Nat}, a < 4294967296 → b < 4294967296 → crcN n a = crcN n b → a = b
  | 0, _, _, _, _, h => h
  | n + 1, _, _, ha, hb, h => crc1_inj ha hb (crcN_inj n (crc1_lt ha) (crc1_lt hb) h)

theorem xor_right_inj {a b c : Nat} (h : a ^^^ c = b ^^^ c) : a = b := by
  have h3 := congrArg (· ^^^ c) h
  simpa [Nat.xor_assoc] using h3

theorem xor_byte_lt {s : Nat} (c : UInt8) (h : s < 4294967296) : s ^^^ c.toNat < 4294967296 := by
  have e : (4294967296 : Nat) = 2 ^ 32 := by decide
  have := c.toNat_lt
  rw [e] at h ⊢
  exact Nat.xor_lt_two_pow h (by omega)

theorem crcByte_inj {a b : Nat} (c : UInt8) (ha : a < 4294967296) (hb : b < 4294967296) (h : crcByte a c = crcByte b c) : a = b :=
  xor_right_inj (crcN_inj 8 (xor_byte_lt c ha) (xor_byte_lt c hb) h)

theorem crcByte_inj2 {a : Nat} (c d : UInt8) (ha : a < 4294967296) (h : crcByte a c = crcByte a d) : c = d := by
  have h1 := crcN_inj 8 (xor_byte_lt c ha) (xor_byte_lt d ha) h
  rw [Nat.xor_comm a, Nat.xor_comm a] at h1
  exact UInt8.toNat_inj.1 (xor_right_inj h1)

theorem crcFrom_inj : ∀ (l : List UInt8) {a b : Nat}, a < 4294967296 → b < 4294967296 → crcFrom a l = crcFrom b l → a = b
  | [], _, _, _, _, h => h
  | c :: r, _, _, ha, hb, h => crcByte_inj c ha hb (crcFrom_inj r (crcByte_lt c ha) (crcByte_lt c hb) h)

/-- One byte that is turned turns the sum. -/
theorem crcOf_turned (p q : List UInt8) (c d : UInt8) (h : crcOf (p ++ c :: q) = crcOf (p ++ d :: q)) : c = d := by
  unfold crcOf at h
  have hl : ∀ l, crcFrom 4294967295 l < 4294967296 := fun l => crcFrom_lt l (by decide)
  have h1 := hl (p ++ c :: q)
  have h2 := hl (p ++ d :: q)
  have h3 : crcFrom 4294967295 (p ++ c :: q) = crcFrom 4294967295 (p ++ d :: q) := by omega
  have h4 : ∀ x : UInt8, crcFrom 4294967295 (p ++ x :: q) = crcFrom (crcByte (crcFrom 4294967295 p) x) q := fun x => by unfold crcFrom; rw [List.foldl_append]; rfl
  rw [h4, h4] at h3
  exact crcByte_inj2 c d (hl p) (crcFrom_inj q (crcByte_lt c (hl p)) (crcByte_lt d (hl p)) h3)

/-! ### in the walk's spelling -/
theorem xor32 (a b : Nat) (ha : a < 4294967296) (hb : b < 4294967296) : bits .xor .u32 (a : Int) (b : Int) = ((a ^^^ b : Nat) : Int) := u32_xor_nat a b ha hb

theorem crc1_walk (s : Nat) (h : s < 4294967296) : bits .xor .u32 ((s : Int) / 2) ((s : Int) % 2 * 3988292384) = ((crc1 s : Nat) : Int) := by
  have e1 : (s : Int) / 2 = ((s / 2 : Nat) : Int) := by omega
  have e2 : (s : Int) % 2 * 3988292384 = ((s % 2 * crcP : Nat) : Int) := by unfold crcP; omega
  rw [e1, e2, xor32 _ _ (by omega) (by unfold crcP; omega)]
  rfl

theorem crcNib_walk (s : Nat) (h : s < 4294967296) : bits .xor .u32 ((s : Int) / 16) ((crcT (s % 16) : Nat) : Int) = ((crcNib s : Nat) : Int) := by
  have e1 : (s : Int) / 16 = ((s / 16 : Nat) : Int) := by omega
  rw [e1, xor32 _ _ (by omega) (crcT_lt _ (by omega))]
  rfl

theorem xor_all (s : Nat) (h : s < 4294967296) : 4294967295 ^^^ s = 4294967295 - s := by
  have e : (4294967295 : Nat) - s = 2 ^ 32 - (s + 1) := by omega
  rw [e]
  apply Nat.eq_of_testBit_eq
  intro i
  rw [Nat.testBit_two_pow_sub_succ (by omega), Nat.testBit_xor, show (4294967295 : Nat) = 2 ^ 32 - 1 by decide, Nat.testBit_two_pow_sub_one]
  by_cases hi : i < 32
  · simp [hi]
  · have : s.testBit i = false := Nat.testBit_lt_two_pow (Nat.lt_of_lt_of_le h (by
      have : (4294967296 : Nat) = 2 ^ 32 := by decide
      rw [this]; exact Nat.pow_le_pow_right (by decide) (by omega)))
    simp [hi, this]

theorem not32 (s : Nat) (h : s < 4294967296) : bits .xor .u32 IntKind.u32.max (s : Int) = ((4294967295 - s : Nat) : Int) := by
  have e : IntKind.u32.max = ((4294967295 : Nat) : Int) := by decide
  rw [e, xor32 _ _ (by decide) h, xor_all s h]

theorem crc1_odd (s : Nat) (h : s < 4294967296) (h1 : s % 2 = 1) : bits .xor .u32 ((s : Int) / 2) 3988292384 = ((crc1 s : Nat) : Int) := by
  have := crc1_walk s h
  rwa [show (s : Int) % 2 * 3988292384 = 3988292384 by omega] at this
theorem crc1_evn (s : Nat) (h1 : s % 2 = 0) : crc1 s = s / 2 := by
  unfold crc1; rw [h1, Nat.zero_mul, Nat.xor_zero]
end Go.Proofs.Ytpcbpimlakehcaa

/-! ## PackC -/
/-
  CHECK SUMS: crcTable, Crc, and the reference's Crc, as one plain function. No condition but that lengths stay below 2^47.
-/
namespace Go.Proofs.Ytpcbpimlakehcaa
open Go.RowKit

/-- The table when its first i places are filled. -/
def crcCells (i : Nat) : Array Value := ((List.range 16).map fun j => if j < i then Value.int .u32 ((crcT j : Nat) : Int) else .int .u32 0).toArray

theorem crcCells_size (i : Nat) : (crcCells i).size = 16 := by simp [crcCells]
theorem crcCells_get (i j : Nat) (h : j < 16) : (crcCells i)[j]? = some (if j < i then .int .u32 ((crcT j : Nat) : Int) else .int .u32 0) := by
  simp [crcCells, h]
theorem crcCells_set (i : Nat) : (crcCells i).setIfInBounds i (.int .u32 ((crcT i : Nat) : Int)) = crcCells (i + 1) := by
  apply Array.ext
  · simp [crcCells]
  · intro j h1 h2
    have hj : j < 16 := by simpa [crcCells] using h2
    rw [Array.getElem_setIfInBounds (by rw [crcCells_size]; exact hj)]
    by_cases h : i = j
    · subst h
      simp [crcCells]
    · by_cases h' : j < i
      · simp [crcCells, h, h', show j < i + 1 by omega]
      · simp [crcCells, h, h', show ¬ j < i + 1 by omega]
theorem crcCells_zero : crcCells 0 = #[.int .u32 0, .int .u32 0, .int .u32 0, .int .u32 0, .int .u32 0, .int .u32 0, .int .u32 0, .int .u32 0, .int .u32 0, .int .u32 0, .int .u32 0, .int .u32 0, .int .u32 0, .int .u32 0, .int .u32 0, .int .u32 0] := rfl
theorem crcCells_one (i : Nat) : (crcCells i).all (·.oneCell') = true := by
  rw [Array.all_eq_true_iff_forall_mem]
  intro x hx
  obtain ⟨j, _, rfl⟩ := List.mem_map.1 (List.mem_toArray.1 hx)
  show Value.oneCell' (if j < i then _ else _) = true
  split <;> rfl

theorem ret_u32 {a b : Int} (h : a = b) : Ending.returned (.int .u32 a) = .returned (.int .u32 b) := by rw [h]

theorem crcFrom_take (l : List UInt8) (k : Nat) (h : k < l.length) : crcFrom 4294967295 (l.take (k + 1)) = crcByte (crcFrom 4294967295 (l.take k)) (l.getD k 0) := by
  rw [List.take_succ_eq_append_getElem h, crcFrom_snoc]
  simp [List.getD, h]

end Go.Proofs.Ytpcbpimlakehcaa

/-! ## PackT -/
/-
  told: the few answers that every statement of package pack asks besides: it answers true, whatever the memory, and touches nothing that was there.
-/
namespace Go.Proofs.Ytpcbpimlakehcaa
open Go.RowKit

theorem uv300 : Lib.uvarint 300 = [172, 2] := by
  rw [Lib.uvarint_big (by decide), Lib.uvarint_small (by decide)]
  rfl
theorem uv2 : Lib.uvarint 2 = [2] := by
  rw [Lib.uvarint_small (by decide)]
  rfl

theorem told_r1 : rNum 300 (some [172, 2, 2, 97, 98, 1]) = (300, some [2, 97, 98, 1]) := by decide
theorem told_r2 : rText 2 (some [2, 97, 98, 1]) = ([97, 98], some [1]) := by decide
theorem told_r3 : rYes (some [1]) = (true, some []) := by decide
theorem told_r5 : rNum 5 (some []) = (0, none) := by decide
theorem told_crc : crcOf [49, 50, 51, 52, 53, 54, 55, 56, 57] = 3421780262 := by kernel_rfl

end Go.Proofs.Ytpcbpimlakehcaa

/-! ## PackArgs -/
/-
  A SLICE OF BYTES THAT CAME IN, AS A LIST OF BYTES. No condition.
-/
namespace Go.Proofs.Ytpcbpimlakehcaa
open Go.ChangeShapes Go.WideShapes Go.ChangeAt Go.RowKit

theorem own : ownKnob Try.prog.godebug = none := by kernel_rfl
theorem laidOut : laidOutB Try.prog = true := by kernel_rfl

theorem byt_row {W : World} {a : Addr} {len cap : Nat} {zs : List Int} (hl : len ≤ cap) (hm : cap ≤ maxLen) (hz : zs.length = cap) (hcell : ∀ i, i < zs.length → W.cell? (a.add i) = some (.int .u8 (zs.getD i 0)))
    (hwz : ∀ n ∈ zs, (Lit.int .u8 n).wf = true) : ∃ l, l.length = len ∧ Byt W W.heap.size (.slice (some a) len cap) l := by
  have hlen : ((zs.take len).map fun z => UInt8.ofNat z.toNat).length = len := by rw [List.length_map, List.length_take]; omega
  refine ⟨(zs.take len).map fun z => UInt8.ofNat z.toNat, hlen, some a, cap, by rw [hlen], by omega, hm, fun e => by simp at e, fun hne => ?_⟩
  have hpos : 0 < len := by
    rcases Nat.eq_zero_or_pos len with h | h
    · subst h; exact absurd (by simp) hne
    · exact h
  obtain ⟨b, off, rfl, hc⟩ := ints_at hcell (by omega)
  refine ⟨b, off, rfl, World.block_lt_of_cell? _ _ (hc 0 (by omega)), fun j hj => ?_⟩
  rw [hlen] at hj
  have hj' : j < zs.length := by omega
  have hb := bounds_u8 (hwz zs[j] (List.getElem_mem hj'))
  rw [hc j hj']
  have e : ((zs.take len).map fun z => UInt8.ofNat z.toNat).getD j 0 = UInt8.ofNat zs[j].toNat := by
    simp [List.getD, hj, hj']
  rw [e]
  have e2 : zs.getD j 0 = zs[j] := by simp [List.getD, hj']
  rw [e2]
  congr 2
  simp
  omega
end Go.Proofs.Ytpcbpimlakehcaa
