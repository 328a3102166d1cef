/-
  CHECK SUMS: crcTable, Crc, and the reference's Crc, as one plain function. No condition but that lengths stay below 2^47.
-/
import Derived.Test.YtpmigpgkicacpaaPackR
import Derived.Test.YtpmigpgkicacpaaPackCMath
namespace Go.Proofs.Ytpmigpgkicacpaa
open Go.RowKit

/-- The table when its first i places are filled. -/
def crcCells (i : Nat) : Array Value := ((List.range 16).map fun j => if j < i then Value.int .u32 ((crcT j : Nat) : Int) else .int .u32 0).toArray

theorem crcCells_size (i : Nat) : (crcCells i).size = 16 := by simp [crcCells]
theorem crcCells_get (i j : Nat) (h : j < 16) : (crcCells i)[j]? = some (if j < i then .int .u32 ((crcT j : Nat) : Int) else .int .u32 0) := by
  simp [crcCells, h]
theorem crcCells_set (i : Nat) : (crcCells i).setIfInBounds i (.int .u32 ((crcT i : Nat) : Int)) = crcCells (i + 1) := by
  apply Array.ext
  · simp [crcCells]
  · intro j h1 h2
    have hj : j < 16 := by simpa [crcCells] using h2
    rw [Array.getElem_setIfInBounds (by rw [crcCells_size]; exact hj)]
    by_cases h : i = j
    · subst h
      simp [crcCells]
    · by_cases h' : j < i
      · simp [crcCells, h, h', show j < i + 1 by omega]
      · simp [crcCells, h, h', show ¬ j < i + 1 by omega]
theorem crcCells_zero : crcCells 0 = #[.int .u32 0, .int .u32 0, .int .u32 0, .int .u32 0, .int .u32 0, .int .u32 0, .int .u32 0, .int .u32 0, .int .u32 0, .int .u32 0, .int .u32 0, .int .u32 0, .int .u32 0, .int .u32 0, .int .u32 0, .int .u32 0] := rfl
theorem crcCells_one (i : Nat) : (crcCells i).all (·.oneCell') = true := by
  rw [Array.all_eq_true_iff_forall_mem]
  intro x hx
  obtain ⟨j, _, rfl⟩ := List.mem_map.1 (List.mem_toArray.1 hx)
  show Value.oneCell' (if j < i then _ else _) = true
  split <;> rfl

theorem tab_info : (Try.prog.info? 61).map (·.size) = some 16 := by kernel_rfl

set_option maxHeartbeats 2000000 in
set_option maxRecDepth 100000 in
theorem table_any (w : World) : Calls Try.prog 32 #[] w fun e w' => e = .returned (.agg (crcCells 16)) ∧ Below w.heap.size w w' := by
  go_enter Try.func32, Try.ntmps32
  go_wp2
  go_loopw [5] (fun vi wr => ∃ i : Nat, i ≤ 16 ∧ vi = .int .i64 i ∧ (∃ e, wr.heap[w.heap.size]? = some (.cells (crcCells 0) e (0, 0))) ∧ (∃ e, wr.heap[w.heap.size + 1]? = some (.cells (crcCells i) e (0, 0))) ∧ Below w.heap.size w wr)
    (fun vi _ => 16 - (intOf vi).toNat)
  case atStart =>
    refine ⟨0, by omega, rfl, ⟨_, by rw [crcCells_zero]; exact heap_alloc2_old w _ _⟩, ⟨_, by rw [crcCells_zero]; exact heap_alloc2_new w _ _⟩, ((Below.refl _ _).alloc (Nat.le_refl _) _).alloc (by simp) _⟩
  case round =>
    obtain ⟨i, hi, rfl, ⟨e0, hb0⟩, ⟨e1, hb1⟩, hnx⟩ := hrel
    have hsz := lt_of_block hb1
    have H0 := Lib.hid hb0
    have H1 := Lib.hid hb1
    by_cases hlt : i < 16
    · have hcell : wr.cell? ⟨w.heap.size + 1, i, none⟩ = some (.int .u32 0) := by
        rw [cell_of_row wr _ i _ _ _ hb1, crcCells_get i i hlt, if_neg (by omega)]
      have hfr := frozen_of_row wr _ i _ _ hb1
      clear hb0 hb1
      go_wp2
      obtain ⟨wo, hwo⟩ : ∃ wo : World, wo = wr := ⟨_, rfl⟩
      subst hwo
      go_loop [3, 10] (fun vs vk => ∃ k s : Nat, k ≤ 4 ∧ vk = .int .i64 k ∧ vs = .int .u32 s ∧ s < 4294967296 ∧ crcN (4 - k) s = crcT i) (fun _ vk => 4 - (intOf vk).toNat)
      case atStart => exact ⟨0, i, by omega, rfl, rfl, by omega, rfl⟩
      case round =>
        obtain ⟨k, s, hk, rfl, rfl, hs, hcr⟩ := hrel
        have HC := Lib.hid hcr
        clear hcr
        by_cases hk4 : k < 4
        · have HO := Lib.hid (crc1_walk s hs)
          go_wp2
          go_round
          case rel => exact ⟨k + 1, crc1 s, by omega, by go_num, by rw [HO.out], crc1_lt hs, by rw [← HC.out, show 4 - k = (4 - (k + 1)) + 1 by omega]; rfl⟩
          case measure => simp [intOf]; omega
        · have hk' : k = 4 := by omega
          have HS : Hid (s = crcT i) := by show _ = _; rw [← HC.out, hk']; rfl
          clear hk'
          go_wp2
          go_roundw
          case rel =>
            refine ⟨i + 1, by omega, by go_num, ⟨e0, ?_⟩, ⟨e1, ?_⟩, hnx.setCell (by simp) _⟩
            · rw [Below.heap_setCell _ _ _ _ (by simp)]; exact H0.out
            · rw [heap_setCell_same _ _ _ _ _ _ H1.out, HS.out, crcCells_set i]
          case measure => simp [intOf]; omega
    · have hi16 : i = 16 := by omega
      subst hi16
      clear hb0 hb1
      go_wp2_with (first
        | (refine wpList_load_row rfl 61 (.tmp 1) rfl (w.heap.size + 1) rfl e1 (crcCells 16) (0, 0) _ H1.out Try.underlying61 rfl (by rw [crcCells_size]; exact tab_info) ?_)
        | (refine wpList_store_row rfl 61 (.tmp 0) (.tmp 24) rfl w.heap.size (crcCells 16) rfl rfl e0 (crcCells 0) H0.out (by rw [crcCells_size]; exact tab_info) (by rw [crcCells_size, crcCells_size]) (crcCells_one 16) ?_))
      have h16 := setRow_heap wr w.heap.size (crcCells 0) (crcCells 16) e0 _ H0.out
      refine bodyPost_ret (results_cell_row rfl _ _ w.heap.size e0 (crcCells 16) (0, 0) _ rfl h16 Try.underlying61 rfl (by rw [crcCells_size]; exact tab_info)) rfl ⟨rfl, ?_⟩
      exact hnx.trans ⟨rfl, rfl, rfl, by simp, fun k hk => setRow_other wr w.heap.size k _ (by omega)⟩

theorem ret_u32 {a b : Int} (h : a = b) : Ending.returned (.int .u32 a) = .returned (.int .u32 b) := by rw [h]

theorem crcFrom_take (l : List UInt8) (k : Nat) (h : k < l.length) : crcFrom 4294967295 (l.take (k + 1)) = crcByte (crcFrom 4294967295 (l.take k)) (l.getD k 0) := by
  rw [List.take_succ_eq_append_getElem h, crcFrom_snoc]
  simp [List.getD, h]

set_option maxHeartbeats 2000000 in
set_option maxRecDepth 100000 in
theorem crc_some (b off n cap B : Nat) (l : List UInt8) (w : World) (hn : l.length = n) (hm : n ≤ 140737488355328) (hBw : B ≤ w.heap.size) (hbB : b < B) (hc : ∀ j, j < n → w.cell? ⟨b, off + j, none⟩ = some (.int .u8 (l.getD j 0).toNat)) :
    Calls Try.prog 25 #[.slice (some ⟨b, off, none⟩) n cap] w fun e w' => e = .returned (.int .u32 (crcOf l)) ∧ Below w.heap.size w w' := by
  have HC := Lib.hid hc
  have HN := Lib.hid hn
  clear hc hn
  obtain ⟨R, hR⟩ : ∃ R, R = crcOf l := ⟨_, rfl⟩
  rw [← hR]
  have HR := Lib.hid hR
  clear hR
  have HT := Lib.hid (table_any w)
  go_enter Try.func25, Try.ntmps25
  go_wp2_with fail
  refine HT.out.mono ?_
  rintro e w1 ⟨rfl, hb1⟩
  have hsz := hb1.size
  go_wp2_with (refine wpList_store_row rfl 61 (.tmp 3) (.tmp 7) rfl w1.heap.size (crcCells 16) rfl rfl _ _ (heap_alloc_new w1 _) (by rw [crcCells_size]; exact tab_info) (by rw [crcCells_size]; rfl) (crcCells_one 16) ?_)
  have hrow := setRow_heap (w1.alloc (.cells (crcCells 0) 61)) w1.heap.size (crcCells 0) (crcCells 16) 61 _ (heap_alloc_new w1 _)
  have hBw1 : Below w.heap.size w ((w1.alloc (.cells (crcCells 0) 61)).setRow w1.heap.size (crcCells 16)) :=
    (hb1.alloc hsz _).trans ⟨rfl, rfl, rfl, by simp, fun k hk => setRow_other _ _ k _ (by omega)⟩
  rw [crcCells_zero] at hrow hBw1
  generalize hWX : World.setRow _ _ _ = wx at hrow hBw1 ⊢
  clear hWX
  have HTab : Hid (∀ i, i < 16 → wx.cell? ⟨w1.heap.size, i, none⟩ = some (.int .u32 ((crcT i : Nat) : Int))) := fun i hi => by
    rw [cell_of_row wx _ i _ _ _ hrow, crcCells_get 16 i hi, if_pos hi]
  have HC2 : Hid (∀ j, j < n → wx.cell? ⟨b, off + j, none⟩ = some (.int .u8 (l.getD j 0).toNat)) := fun j hj =>
    (hBw1.cell (p := ⟨b, off + j, none⟩) (Nat.lt_of_lt_of_le hbB hBw)).trans (HC.out j hj)
  have HBW := Lib.hid hBw1
  clear hrow hBw1 hb1
  go_loop [4, 10] (fun vs vi => ∃ k s : Nat, k ≤ n ∧ vi = .int .i64 k ∧ vs = .int .u32 s ∧ s < 4294967296 ∧ s = crcFrom 4294967295 (l.take k)) (fun _ vi => n - (intOf vi).toNat)
  case atStart => exact ⟨0, 4294967295, by omega, rfl, rfl, by decide, rfl⟩
  case round =>
    obtain ⟨k, s, hk, rfl, rfl, hs, hcr⟩ := hrel
    have HS := Lib.hid hcr
    clear hcr
    by_cases hlt : k < n
    · have hcell := HC2.out k hlt
      obtain ⟨c, hcd⟩ : ∃ c, c = l.getD k 0 := ⟨_, rfl⟩
      rw [← hcd] at hcell
      have HD := Lib.hid hcd
      have hc256 := c.toNat_lt
      have HX : Hid (bits .xor .u32 (s : Int) (c.toNat : Int) = ((s ^^^ c.toNat : Nat) : Int)) := xor32 s c.toNat hs (by omega)
      have hx := xor_byte_lt c hs
      clear hcd
      obtain ⟨s0, hs0⟩ : ∃ x, x = s ^^^ c.toNat := ⟨_, rfl⟩
      rw [← hs0] at hx HX
      have HS0 := Lib.hid hs0
      have hX := HX.out
      clear hs0 HX
      go_wp2
      go_loop [4, 18] (fun vs vj => ∃ j t : Nat, j ≤ 2 ∧ vj = .int .i64 j ∧ vs = .int .u32 t ∧ t < 4294967296 ∧ nibs (2 - j) t = crcN 8 s0) (fun _ vj => 2 - (intOf vj).toNat)
      case atStart => exact ⟨0, s0, by omega, rfl, by first | rfl | rw [hX], hx, nibs_two s0⟩
      case round =>
        obtain ⟨j, t, hj, rfl, rfl, ht, hnb⟩ := hrel
        have HNB := Lib.hid hnb
        clear hnb hX hcell
        by_cases hj2 : j < 2
        · have htab := HTab.out (t % 16) (by omega)
          have HO := Lib.hid (crcNib_walk t ht)
          go_wp2
          go_round
          case rel => exact ⟨j + 1, crcNib t, by omega, by go_num, by rw [HO.out], nib_lt ht, by rw [← HNB.out, show 2 - j = (2 - (j + 1)) + 1 by omega]; rfl⟩
          case measure => simp [intOf]; omega
        · have hj' : j = 2 := by omega
          have HE : Hid (t = crcFrom 4294967295 (l.take (k + 1))) := by
            show _ = _
            rw [crcFrom_take l k (by rw [HN.out]; exact hlt), ← HS.out, ← HD.out]
            unfold crcByte
            rw [← HS0.out, ← HNB.out, hj']
            rfl
          clear hj'
          go_wp2
          go_round
          case rel => exact ⟨k + 1, t, by omega, by go_num, rfl, ht, HE.out⟩
          case measure => simp [intOf]; omega
    · have hkn : k = n := by omega
      have HE : Hid (R = 4294967295 - s) := by
        show _ = _
        rw [HR.out, HS.out, List.take_of_length_le (by rw [HN.out]; omega)]
        rfl
      clear hkn
      go_wp2
      go_returns
      exact ⟨ret_u32 (by rw [HE.out]; exact not32 s hs), HBW.out⟩

set_option maxHeartbeats 2000000 in
set_option maxRecDepth 100000 in
theorem crc_nil (ao : Option Addr) (cap : Nat) (w : World) :
    Calls Try.prog 25 #[.slice ao 0 cap] w fun e w' => e = .returned (.int .u32 0) ∧ Below w.heap.size w w' := by
  have HT := Lib.hid (table_any w)
  go_enter Try.func25, Try.ntmps25
  go_wp2_with fail
  refine HT.out.mono ?_
  rintro e w1 ⟨rfl, hb1⟩
  have hsz := hb1.size
  go_wp2_with (refine wpList_store_row rfl 61 (.tmp 3) (.tmp 7) rfl w1.heap.size (crcCells 16) rfl rfl _ _ (heap_alloc_new w1 _) (by rw [crcCells_size]; exact tab_info) (by rw [crcCells_size]; rfl) (crcCells_one 16) ?_)
  have hBw1 : Below w.heap.size w ((w1.alloc (.cells (crcCells 0) 61)).setRow w1.heap.size (crcCells 16)) :=
    (hb1.alloc hsz _).trans ⟨rfl, rfl, rfl, by simp, fun k hk => setRow_other _ _ k _ (by omega)⟩
  rw [crcCells_zero] at hBw1
  generalize hWX : World.setRow _ _ _ = wx at hBw1 ⊢
  clear hWX
  have HBW := Lib.hid hBw1
  clear hBw1 hb1
  go_rounds 1
  go_returns
  exact ⟨rfl, HBW.out⟩

theorem crc_any (v : Value) (B : Nat) (l : List UInt8) (w : World) (hB : Byt w B v l) (hBw : B ≤ w.heap.size) (hm : l.length ≤ 140737488355328) :
    Calls Try.prog 25 #[v] w fun e w' => e = .returned (.int .u32 (crcOf l)) ∧ Below w.heap.size w w' := by
  obtain ⟨ao, cap, rfl, h1, h2, h3, h4⟩ := hB
  by_cases hl : l = []
  · subst hl
    exact crc_nil ao cap w
  · obtain ⟨b, off, rfl, hb, hc⟩ := h4 hl
    exact crc_some b off _ cap B l w rfl hm hBw hb hc

set_option maxHeartbeats 2000000 in
set_option maxRecDepth 100000 in
theorem refcrc_any (str : ByteArray) (w : World) (hm : str.size ≤ 140737488355328) :
    Calls Try.prog 22 #[.string str] w fun e w' => e = .returned (.int .u32 (crcOf str.data.toList)) ∧ w = w' := by
  obtain ⟨R, hR⟩ : ∃ R, R = crcOf str.data.toList := ⟨_, rfl⟩
  rw [← hR]
  have HR := Lib.hid hR
  clear hR
  go_enter Try.func22, Try.ntmps22
  go_wp2
  go_loop [3, 4] (fun vs vi => ∃ k s : Nat, k ≤ str.size ∧ vi = .int .i64 k ∧ vs = .int .u32 s ∧ s < 4294967296 ∧ s = crcFrom 4294967295 (str.data.toList.take k)) (fun _ vi => str.size - (intOf vi).toNat)
  case atStart => exact ⟨0, 4294967295, by omega, rfl, rfl, by decide, rfl⟩
  case round =>
    obtain ⟨k, s, hk, rfl, rfl, hs, hcr⟩ := hrel
    have HS := Lib.hid hcr
    clear hcr
    by_cases hlt : k < str.size
    · have hc256 : (str[k]).toNat < 256 := (str[k]).toNat_lt
      have hx := xor_byte_lt str[k] hs
      have HX : Hid (bits .xor .u32 (s : Int) ((str[k]).toNat : Int) = ((s ^^^ (str[k]).toNat : Nat) : Int)) := xor32 s _ hs (by omega)
      obtain ⟨s0, hs0⟩ : ∃ x, x = s ^^^ (str[k]).toNat := ⟨_, rfl⟩
      rw [← hs0] at hx HX
      have HNX : Hid (crcFrom 4294967295 (str.data.toList.take (k + 1)) = crcN 8 s0) := by
        show _ = _
        have hk' : k < str.data.toList.length := by rw [Array.length_toList]; exact hlt
        rw [List.take_succ_eq_append_getElem hk', crcFrom_snoc, ← HS.out, hs0]
        rfl
      have hX := HX.out
      clear hs0 HX
      go_wp2
      go_loop [3, 5] (fun vs vj => ∃ j t : Nat, j ≤ 8 ∧ vj = .int .i64 j ∧ vs = .int .u32 t ∧ t < 4294967296 ∧ crcN (8 - j) t = crcN 8 s0) (fun _ vj => 8 - (intOf vj).toNat)
      case atStart => exact ⟨0, s0, by omega, rfl, by first | rfl | rw [hX], hx, rfl⟩
      case round =>
        obtain ⟨j, t, hj, rfl, rfl, ht, hnb⟩ := hrel
        have HNB := Lib.hid hnb
        clear hnb hX hx hc256
        by_cases hj2 : j < 8
        · have HL : Hid (crcN (8 - (j + 1)) (crc1 t) = crcN 8 s0) := by show _ = _; rw [← HNB.out, show 8 - j = (8 - (j + 1)) + 1 by omega]; rfl
          have hand : bits .and .u32 (t : Int) 1 = ((t % 2 : Nat) : Int) := by
            have := u32_and_nat t 1 ht (by decide)
            rw [nat_mask1] at this
            exact this
          have hlt1 := crc1_lt ht
          rcases (show t % 2 = 0 ∨ t % 2 = 1 by omega) with h0 | h1
          · have HO := Lib.hid (crc1_evn t h0)
            rw [h0] at hand
            clear h0
            go_wp2
            go_round
            case rel => exact ⟨j + 1, crc1 t, by omega, by go_num, by rw [HO.out]; rfl, hlt1, HL.out⟩
            case measure => simp [intOf]; omega
          · have HO := Lib.hid (crc1_odd t ht h1)
            rw [h1] at hand
            clear h1
            go_wp2
            go_round
            case rel => exact ⟨j + 1, crc1 t, by omega, by go_num, by rw [HO.out], hlt1, HL.out⟩
            case measure => simp [intOf]; omega
        · have hj' : j = 8 := by omega
          have HE : Hid (t = crcFrom 4294967295 (str.data.toList.take (k + 1))) := by
            show _ = _
            rw [HNX.out, ← HNB.out, hj']
            rfl
          clear hj'
          go_wp2
          go_round
          case rel => exact ⟨k + 1, t, by omega, by go_num, rfl, ht, HE.out⟩
          case measure => simp [intOf]; omega
    · have HE : Hid (R = 4294967295 - s) := by
        show _ = _
        rw [HR.out, HS.out, List.take_of_length_le (by rw [Array.length_toList]; show str.size ≤ k; omega)]
        rfl
      go_wp2
      go_returns
      exact ⟨ret_u32 (by rw [HE.out]; exact not32 s hs), rfl⟩
end Go.Proofs.Ytpmigpgkicacpaa
