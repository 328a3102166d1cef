/-
  THE PROGRAM's SMALL CALLS ON VERSIONS: Clone, writes, versionOf, read, verdict. Of versions at most a million.
-/
import Derived.Test.YtenjjgghoacboaaChartV
namespace Go.Proofs.Ytenjjgghoacboaa
open Go.RowKit

set_option maxHeartbeats 1000000 in
theorem clonev_some (a : Addr) (n c B : Nat) (L : List VerV) (w : World) (hB : Vers w B (.slice (some a) n c) L) (hBw : B ≤ w.heap.size) (hlim : n ≤ 1000000) :
    Calls Try.prog 118 #[.slice (some a) n c] w fun e w' => ∃ v', e = .returned v' ∧ w'.ownsRow w.heap.size 121 2 v' n (verCells L) ∧ Below w.heap.size w w' := by
  obtain ⟨i0, hi, hz0, hz1, hz2⟩ := info_parts info_Version
  have q22 : ∀ (w : World) (a : Option Addr) (n c n' c' : Nat), (binOp .eql 112 (.slice a n c) (.slice none n' c')).run Try.prog w = .ok (.bool a.isNone) w := fun w a n c n' c' => Lib.run_eql_slice_nil w _ _ a n c n' c' Try.underlying112
  have hn := hB.len.1
  have HS := Lib.hid (src_vers (hB.keep (((Below.refl _ _).alloc (Nat.le_refl _) (.cells #[] 121)).mono hBw)))
  rw [← hn] at HS
  clear hB hn
  go_enter Try.func118, Try.ntmps118
  go_wp2_with (at_builtin; refine wpList_append_own_src rfl (.tmp 5) (.tmp 6) 112 112 rfl w.heap.size 121 i0 (.agg #[.bool false, .string ⟨#[]⟩]) 2 24 Try.underlying112 hi hz0 hz1 hz2 rfl _ _ _ rfl (World.ownsRow_made w #[] 0 (Nat.le_refl _) (Nat.zero_le _) rfl) _ n (verCells L) rfl HS.out ?c3 ?c4 ?c5 ?_)
  case c3 => unfold maxLen; omega
  case c4 => omega
  case c5 => simp
  intro v' w1 hown hgrow
  go_wp2
  go_returns
  refine ⟨v', rfl, by simpa using hown, ?_⟩
  exact ((Below.refl _ w).alloc (Nat.le_refl _) _).grown hgrow (by simp) (by intro k hk; simp [Value.ownBlock] at hk; omega)

set_option maxHeartbeats 1000000 in
theorem clonev_none (n c : Nat) (w : World) :
    Calls Try.prog 118 #[.slice none n c] w fun e w' => e = .returned (.slice none 0 0) ∧ w = w' := by
  have q22 : ∀ (w : World) (a : Option Addr) (n c n' c' : Nat), (binOp .eql 112 (.slice a n c) (.slice none n' c')).run Try.prog w = .ok (.bool a.isNone) w := fun w a n c n' c' => Lib.run_eql_slice_nil w _ _ a n c n' c' Try.underlying112
  go_enter Try.func118, Try.ntmps118
  go_wp2
  go_returns
  exact ⟨rfl, rfl⟩

theorem clonev_any (v : Value) (B : Nat) (L : List VerV) (w : World) (hB : Vers w B v L) (hBw : B ≤ w.heap.size) (hlim : L.length ≤ 1000000) :
    Calls Try.prog 118 #[v] w fun e w' => ∃ v', e = .returned v' ∧ w'.ownsRow w.heap.size 121 2 v' L.length (verCells L) ∧ Below w.heap.size w w' := by
  have hB' := hB
  obtain ⟨ao, cap, rfl, h1, h2, h3, h4⟩ := hB
  cases ao with
  | some a => exact clonev_some a _ cap B L w hB' hBw hlim
  | none =>
    have hl : L = [] := List.eq_nil_of_length_eq_zero (by have := h3 rfl; omega)
    subst hl
    exact (clonev_none _ _ w).mono fun e w' ⟨he, hw⟩ => by subst hw; exact ⟨_, he, World.ownsRow_nil _ _ _ _, Below.refl _ _⟩

set_option maxHeartbeats 1000000 in
theorem writesc_r (cl sq kd id mt : Int) (dt : ByteArray) (R : Bool) (HR : Hid (R = wrV kd)) (w : World) :
    Calls Try.prog 119 #[.agg #[.int .i64 cl, .int .i64 sq, .int .i64 kd, .int .i64 id, .int .i64 mt, .string dt]] w fun e w' => e = .returned (.bool R) ∧ Below w.heap.size w w' := by
  by_cases h1 : kd = 1
  · subst h1
    obtain rfl : R = true := HR.out
    clear HR
    go_enter Try.func119, Try.ntmps119
    go_wp2
    go_returns
    exact ⟨rfl, by go_grown⟩
  by_cases h2 : kd = 2
  · subst h2
    obtain rfl : R = true := HR.out
    clear HR h1
    go_enter Try.func119, Try.ntmps119
    go_wp2
    go_returns
    exact ⟨rfl, by go_grown⟩
  by_cases h3 : kd = 3
  · subst h3
    obtain rfl : R = true := HR.out
    clear HR h1 h2
    go_enter Try.func119, Try.ntmps119
    go_wp2
    go_returns
    exact ⟨rfl, by go_grown⟩
  have b1 : (kd == 1) = false := beq_eq_false_iff_ne.2 h1
  have b2 : (kd == 2) = false := beq_eq_false_iff_ne.2 h2
  have b3 : (kd == 3) = false := beq_eq_false_iff_ne.2 h3
  obtain rfl : R = false := by rw [HR.out]; simp [wrV, b1, b2, b3]
  clear HR h1 h2 h3
  go_enter Try.func119, Try.ntmps119
  go_wp2
  go_returns
  exact ⟨rfl, by go_grown⟩

set_option maxHeartbeats 1000000 in
theorem versionof_r (cl sq kd id mt : Int) (dt : ByteArray) (g : Bool) (d : ByteArray) (HR : Hid (makeV kd dt = ⟨g, d⟩)) (w : World) :
    Calls Try.prog 121 #[.agg #[.int .i64 cl, .int .i64 sq, .int .i64 kd, .int .i64 id, .int .i64 mt, .string dt]] w fun e w' => e = .returned (.agg #[.bool g, .string d]) ∧ Below w.heap.size w w' := by
  by_cases h3 : kd = 3
  · subst h3
    have h := HR.out
    unfold makeV at h
    rw [if_pos rfl] at h
    obtain ⟨rfl, rfl⟩ : true = g ∧ (⟨#[]⟩ : ByteArray) = d := by simpa using h
    clear HR h
    go_enter Try.func121, Try.ntmps121
    go_wp2
    go_returns
    exact ⟨rfl, by go_grown⟩
  · have h := HR.out
    unfold makeV at h
    rw [if_neg h3] at h
    obtain ⟨rfl, rfl⟩ : false = g ∧ dt = d := by simpa using h
    have b3 : (kd == 3) = false := beq_eq_false_iff_ne.2 h3
    clear HR h h3
    go_enter Try.func121, Try.ntmps121
    go_wp2
    go_returns
    exact ⟨rfl, by go_grown⟩

set_option maxHeartbeats 1000000 in
theorem read_out (ao : Option Addr) (n cap : Nat) (i : Int) (w : World) (h : i < 1 ∨ (n : Int) < i) (_ : n ≤ 1000000) :
    Calls Try.prog 122 #[.slice ao n cap, .int .i64 i] w fun e w' => e = .returned (.agg #[.int .i64 2, .int .i64 0, .string ⟨#[]⟩, .slice none 0 0]) ∧ Below w.heap.size w w' := by
  by_cases h1 : i < 1
  · clear h
    go_enter Try.func122, Try.ntmps122
    go_wp2
    go_returns
    exact ⟨rfl, by go_grown⟩
  · have h2 : (n : Int) < i := by omega
    have h3 : 1 ≤ i := by omega
    clear h h1
    go_enter Try.func122, Try.ntmps122
    go_wp2
    go_returns
    exact ⟨rfl, by go_grown⟩

set_option maxHeartbeats 1000000 in
theorem read_in (b off n cap : Nat) (k : Nat) (g : Bool) (d : ByteArray) (w : World) (hk : k < n) (hn : n ≤ 1000000)
    (hc : ∀ o, (w.alloc o).cell? ⟨b, off + k * 2, none⟩ = some (.bool g) ∧ (w.alloc o).cell? ⟨b, off + k * 2 + 1, none⟩ = some (.string d)) :
    Calls Try.prog 122 #[.slice (some ⟨b, off, none⟩) n cap, .int .i64 ((k : Int) + 1)] w fun e w' =>
      e = .returned (if g = true then .agg #[.int .i64 3, .int .i64 ((k : Int) + 1), .string ⟨#[]⟩, .slice none 0 0] else .agg #[.int .i64 1, .int .i64 ((k : Int) + 1), .string d, .slice none 0 0]) ∧ Below w.heap.size w w' := by
  have i0 : (0 : Int) ≤ (k : Int) := by omega
  have i1 : (k : Int) < (n : Int) := by omega
  obtain ⟨c0, c1⟩ := hc (.cells #[.int .i64 0, .int .i64 0, .string ⟨#[]⟩, .slice none 0 0] 48)
  clear hc
  cases g
  all_goals
    go_enter Try.func122, Try.ntmps122
    go_wp2
    go_returns
    exact ⟨rfl, by go_grown⟩
end Go.Proofs.Ytenjjgghoacboaa
