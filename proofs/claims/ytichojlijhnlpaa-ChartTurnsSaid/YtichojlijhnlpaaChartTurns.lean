/-
  PROVED: casebooklaw4.ChartTurns answers true and leaves its argument as it was, for any order of the three kinds: the row's own reading and nothing else is assumed.
-/
import Derived.Test.YtichojlijhnlpaaChartArgs
import Derived.Test.YtichojlijhnlpaaChartM
namespace Go.Proofs.Ytichojlijhnlpaa.ChartTurns
open Go.ChangeShapes Go.WideShapes Go.ChangeAt Go.RowKit

theorem modn (p : Int) (m : Int) (hm : 0 < m) : ∃ k : Nat, (k : Int) < m ∧ (IntKind.u64.wrap p).tmod m = (k : Int) := by
  have hu : 0 ≤ IntKind.u64.wrap p := by simp [IntKind.wrap, IntKind.bits, IntKind.signed]; omega
  have h0 := Int.emod_nonneg (IntKind.u64.wrap p) (by omega : m ≠ 0)
  have h1 := Int.emod_lt_of_pos (IntKind.u64.wrap p) hm
  refine ⟨((IntKind.u64.wrap p).tmod m).toNat, ?_, ?_⟩
  · rw [Int.tmod_eq_emod_of_nonneg hu]; omega
  · rw [Int.tmod_eq_emod_of_nonneg hu]; omega

/-- Is it there? -/
def tb (M : List VerV) : Bool := decide (M.length ≠ 0) && !(at' M (M.length - 1)).gone
theorem tb_none (M : List VerV) (h : M.length = 0) : tb M = false := by simp [tb, h]
theorem tb_snoc (M : List VerV) (x : VerV) : tb (M ++ [x]) = !x.gone := by
  unfold tb
  rw [List.length_append, show M.length + [x].length - 1 = M.length by simp, at_last]
  simp
theorem code_of (M : List VerV) : (if M.length = 0 then (2 : Int) else if (at' M (M.length - 1)).gone = true then 3 else 1) = if M.length = 0 then 2 else if tb M = true then 1 else 3 := by
  by_cases h : M.length = 0
  · rw [if_pos h, if_pos h]
  · rw [if_neg h, if_neg h]
    unfold tb
    cases (at' M (M.length - 1)).gone <;> simp [h]
theorem tb_pos (M : List VerV) (h : tb M = true) : M.length ≠ 0 := by
  intro h0
  rw [tb_none M h0] at h
  cases h

theorem t_no1 (M : List VerV) (dt : ByteArray) (h : tb M = true) : doL M 1 0 dt 1000 = M ∧ doR M 1 0 1000 = ⟨4, M.length, ⟨#[]⟩, []⟩ := by
  refine do_none M 1 0 dt 1000 4 rfl ?_ (by omega)
  rw [verd_if M 1 0 1000 1 (by rw [code_of, if_neg (tb_pos M h), if_pos h]), if_pos ⟨rfl, rfl⟩]
theorem t_yes1 (M : List VerV) (dt : ByteArray) (h : tb M = false) (hl : M.length ≤ 40) : doL M 1 0 dt 1000 = M ++ [⟨false, dt⟩] ∧ doR M 1 0 1000 = ⟨1, M.length + 1, ⟨#[]⟩, []⟩ := by
  refine do_one M 1 0 dt 1000 rfl ?_
  obtain ⟨C, hC⟩ : ∃ C, (if M.length = 0 then (2 : Int) else if (at' M (M.length - 1)).gone = true then 3 else 1) = C := ⟨_, rfl⟩
  have hC1 : C ≠ 1 := by
    rw [code_of, h] at hC
    split at hC
    · omega
    · simp at hC; omega
  rw [verd_if M 1 0 1000 C hC, if_neg (fun h => hC1 h.2), if_neg (fun h => h.1 rfl)]
  unfold restV
  rw [if_neg (by omega), if_neg (by omega)]
theorem t_none (M : List VerV) (k : Int) (dt : ByteArray) (hk : k = 2 ∨ k = 3) (h : M.length = 0) : doL M k 0 dt 1000 = M ∧ doR M k 0 1000 = ⟨2, M.length, ⟨#[]⟩, []⟩ := by
  refine do_none M k 0 dt 1000 2 (by rcases hk with rfl | rfl <;> rfl) ?_ (by omega)
  rw [verd_if M k 0 1000 2 (by rw [if_pos h]), if_neg (by omega), if_pos ⟨by omega, by omega⟩]
theorem t_gone (M : List VerV) (k : Int) (dt : ByteArray) (hk : k = 2 ∨ k = 3) (h : M.length ≠ 0) (ht : tb M = false) : doL M k 0 dt 1000 = M ∧ doR M k 0 1000 = ⟨3, M.length, ⟨#[]⟩, []⟩ := by
  refine do_none M k 0 dt 1000 3 (by rcases hk with rfl | rfl <;> rfl) ?_ (by omega)
  rw [verd_if M k 0 1000 3 (by rw [code_of, if_neg h, ht]; rfl), if_neg (by omega), if_pos ⟨by omega, by omega⟩]
theorem t_yes (M : List VerV) (k : Int) (dt : ByteArray) (hk : k = 2 ∨ k = 3) (ht : tb M = true) (hl : M.length ≤ 40) : doL M k 0 dt 1000 = M ++ [makeV k dt] ∧ doR M k 0 1000 = ⟨1, M.length + 1, ⟨#[]⟩, []⟩ := by
  refine do_one M k 0 dt 1000 (by rcases hk with rfl | rfl <;> rfl) ?_
  rw [verd_if M k 0 1000 1 (by rw [code_of, if_neg (tb_pos M ht), if_pos ht]), if_neg (by omega), if_neg (by omega)]
  unfold restV
  rw [if_neg (by omega), if_neg (by omega)]

theorem ask_now (M : List VerV) : askV M 4 0 = if M.length = 0 then ⟨2, 0, ⟨#[]⟩, []⟩ else if tb M = true then ⟨1, M.length, (at' M (M.length - 1)).data, []⟩ else ⟨3, M.length, ⟨#[]⟩, []⟩ := by
  unfold askV rdV
  rw [if_pos rfl]
  by_cases h : M.length = 0
  · rw [if_pos (by omega), if_pos h]
  · rw [if_neg (by omega), if_neg h, show ((M.length : Int) - 1).toNat = M.length - 1 by omega]
    unfold tb
    cases (at' M (M.length - 1)).gone <;> simp [h]

set_option maxRecDepth 100000 in
set_option maxHeartbeats 8000000 in
theorem run (ao : Option Addr) (n cap : Nat) (L : List Int) (w : World) (hn : L.length = n) (hnm : n ≤ 9223372036854775807)
    (HL : Hid (∀ i, i < L.length → ∃ b off, ao = some ⟨b, off, none⟩ ∧ ∀ u, Below w.heap.size w u → u.cell? ⟨b, off + i, none⟩ = some (.int .i64 (L.getD i 0)))) :
    Calls Try.prog 8 #[.slice ao n cap] w fun e w' => e = .returned (.bool true) ∧ Below w.heap.size w w' := by
  have HT := Lib.hid (fun u => told4_any u)
  have HN := Lib.hid hn
  clear hn
  go_enter Try.func8, Try.ntmps8
  go_wp2
  go_loopw [3, 4, 5] (fun va vt vi wr => ∃ (i m : Nat) (M : List VerV) (a1 : Option Addr) (c1 : Nat) (T : Bool), i ≤ n ∧ i ≤ 40 ∧ vi = .int .i64 i ∧ va = .slice a1 m c1 ∧ vt = .bool T ∧ M.length = m ∧ m ≤ i ∧ T = tb M ∧
    Vers wr wr.heap.size (.slice a1 m c1) M ∧ Below w.heap.size w wr) (fun _ _ vi _ => n - (intOf vi).toNat)
  case atStart => exact ⟨0, 0, [], none, 0, false, by omega, by omega, rfl, rfl, rfl, rfl, by omega, rfl, Vers.none _ _, Below.refl _ _⟩
  case round =>
    obtain ⟨i, m, M, a1, c1, T, hi, hi40, rfl, rfl, rfl, hm, hmi, htb, hv, hbel⟩ := hrel
    have HV := Lib.hid hv
    have HB := Lib.hid hbel
    have HM := Lib.hid hm
    have HTB := Lib.hid htb
    clear hv hbel hm htb
    have i0 : (0 : Int) ≤ (i : Int) := by omega
    have e1 : ((m : Int) == (m : Int) + 1) = false := by rw [beq_eq_false_iff_ne]; omega
    by_cases hlt : i < n ∧ i < 40
    · obtain ⟨hlt, h40⟩ := hlt
      have i1 : (i : Int) < (n : Int) := by omega
      have i2 : (i : Int) < 40 := by omega
      obtain ⟨b, off, rfl, hc⟩ := HL.out i (by rw [HN.out]; exact hlt)
      have f0 := hc wr HB.out
      generalize L.getD i 0 = x at hc f0
      obtain ⟨j, hj, HX⟩ := modn x 3 (by decide)
      clear hc
      rcases (show j = 0 ∨ j = 1 ∨ j = 2 by omega) with rfl | rfl | rfl
      · have hx3 : (IntKind.u64.wrap x).tmod 3 = 0 := HX
        clear HX
        cases T
        · -- kind 1, not there
          have HD : Hid (∀ u v, Vers u u.heap.size v M → Calls Try.prog 12 #[v, .agg #[.int .i64 0, .int .i64 0, .int .i64 1, .int .i64 0, .int .i64 0, .string ⟨#[100]⟩], .int .i64 1000] u (DoesN (M ++ [(⟨false, ⟨#[100]⟩⟩ : VerV)]) (m + 1) [] 0 1 ((m : Int) + 1) ⟨#[]⟩ u)) := by
            intro u v hv
            obtain ⟨h1, h2⟩ := t_yes1 M ⟨#[100]⟩ HTB.out.symm (by rw [HM.out]; omega)
            rw [HM.out] at h2
            exact do_n v M _ (m + 1) _ 0 0 1 0 0 _ 1000 1 ((m : Int) + 1) ⟨#[]⟩ [] 0 (show _ = _ from h1) (show _ = _ from h2) (by rw [List.length_append, HM.out]; rfl) rfl u hv (Nat.le_refl _) (by rw [HM.out]; omega)
          have HP : Hid (∀ u, Calls Try.prog 18 #[.int .i64 1] u fun e w' => e = .returned (.string ⟨#[100]⟩) ∧ u = w') := fun u => pick_not 1 u (by decide)
          have HT' : Hid (true = tb (M ++ [(⟨false, ⟨#[100]⟩⟩ : VerV)])) := by
            show _ = _
            rw [tb_snoc]; rfl
          have HM' : Hid ((M ++ [(⟨false, ⟨#[100]⟩⟩ : VerV)]).length = (m + 1)) := by
            show _ = _
            rw [List.length_append, HM.out]; rfl
          clear HTB
          go_wp2_with fail
          refine (HP.out _).mono ?_
          rintro e w1 ⟨rfl, rfl⟩
          go_wp2_with fail
          refine (HD.out _ _ HV.out).mono ?_
          rintro e w2 ⟨a2, c2, o2, p2, rfl, V2, _, B2⟩
          have V3 := Lib.hid (V2.on ((Below.refl _ w2).alloc (Nat.le_refl _) (.cells #[.int .i64 1, .int .i64 ((m : Int) + 1), .string ⟨#[]⟩, .slice o2 0 p2] 29)))
          have C3 := Lib.hid (fun o => (HB.out.trans (B2.mono HB.out.size)).alloc (HB.out.trans (B2.mono HB.out.size)).size o)
          clear V2 B2 HP HD
          go_wp2
          go_roundw
          case rel => exact ⟨i + 1, _, _, a2, c2, true, by omega, by omega, by go_num, rfl, rfl, HM'.out, by omega, HT'.out, V3.out, C3.out _⟩
          case measure => simp [intOf]; omega
        · -- kind 1, there
          have HD : Hid (∀ u v, Vers u u.heap.size v M → Calls Try.prog 12 #[v, .agg #[.int .i64 0, .int .i64 0, .int .i64 1, .int .i64 0, .int .i64 0, .string ⟨#[100]⟩], .int .i64 1000] u (DoesN M m [] 0 4 m ⟨#[]⟩ u)) := by
            intro u v hv
            obtain ⟨h1, h2⟩ := t_no1 M ⟨#[100]⟩ HTB.out.symm
            rw [HM.out] at h2
            exact do_n v M _ m _ 0 0 1 0 0 _ 1000 4 m ⟨#[]⟩ [] 0 (show _ = _ from h1) (show _ = _ from h2) (by exact HM.out) rfl u hv (Nat.le_refl _) (by rw [HM.out]; omega)
          have HP : Hid (∀ u, Calls Try.prog 18 #[.int .i64 1] u fun e w' => e = .returned (.string ⟨#[100]⟩) ∧ u = w') := fun u => pick_not 1 u (by decide)
          have HT' : Hid (true = tb M) := by
            show _ = _
            exact HTB.out
          have HM' : Hid (M.length = m) := by
            show _ = _
            exact HM.out
          clear HTB
          go_wp2_with fail
          refine (HP.out _).mono ?_
          rintro e w1 ⟨rfl, rfl⟩
          go_wp2_with fail
          refine (HD.out _ _ HV.out).mono ?_
          rintro e w2 ⟨a2, c2, o2, p2, rfl, V2, _, B2⟩
          have V3 := Lib.hid (V2.on ((Below.refl _ w2).alloc (Nat.le_refl _) (.cells #[.int .i64 4, .int .i64 m, .string ⟨#[]⟩, .slice o2 0 p2] 29)))
          have C3 := Lib.hid (fun o => (HB.out.trans (B2.mono HB.out.size)).alloc (HB.out.trans (B2.mono HB.out.size)).size o)
          clear V2 B2 HP HD
          go_wp2
          go_roundw
          case rel => exact ⟨i + 1, _, _, a2, c2, true, by omega, by omega, by go_num, rfl, rfl, HM'.out, by omega, HT'.out, V3.out, C3.out _⟩
          case measure => simp [intOf]; omega
      · have hx3 : (IntKind.u64.wrap x).tmod 3 = 1 := HX
        clear HX
        by_cases hm0 : m = 0
        · obtain rfl : T = false := by rw [HTB.out]; exact tb_none M (by rw [HM.out]; exact hm0)
          subst hm0
          clear e1
          · -- kind 2, not there, none
            have HD : Hid (∀ u v, Vers u u.heap.size v M → Calls Try.prog 12 #[v, .agg #[.int .i64 0, .int .i64 0, .int .i64 2, .int .i64 0, .int .i64 0, .string ⟨#[100]⟩], .int .i64 1000] u (DoesN M 0 [] 0 2 0 ⟨#[]⟩ u)) := by
              intro u v hv
              obtain ⟨h1, h2⟩ := t_none M 2 ⟨#[100]⟩ (by omega) HM.out
              rw [HM.out] at h2
              exact do_n v M _ 0 _ 0 0 2 0 0 _ 1000 2 0 ⟨#[]⟩ [] 0 (show _ = _ from h1) (show _ = _ from h2) (by exact HM.out) rfl u hv (Nat.le_refl _) (by rw [HM.out]; omega)
            have HP : Hid (∀ u, Calls Try.prog 18 #[.int .i64 2] u fun e w' => e = .returned (.string ⟨#[100]⟩) ∧ u = w') := fun u => pick_not 2 u (by decide)
            have HT' : Hid (false = tb M) := by
              show _ = _
              exact HTB.out
            have HM' : Hid (M.length = 0) := by
              show _ = _
              exact HM.out
            clear HTB
            go_wp2_with fail
            refine (HP.out _).mono ?_
            rintro e w1 ⟨rfl, rfl⟩
            go_wp2_with fail
            refine (HD.out _ _ HV.out).mono ?_
            rintro e w2 ⟨a2, c2, o2, p2, rfl, V2, _, B2⟩
            have V3 := Lib.hid (V2.on ((Below.refl _ w2).alloc (Nat.le_refl _) (.cells #[.int .i64 2, .int .i64 0, .string ⟨#[]⟩, .slice o2 0 p2] 29)))
            have C3 := Lib.hid (fun o => (HB.out.trans (B2.mono HB.out.size)).alloc (HB.out.trans (B2.mono HB.out.size)).size o)
            clear V2 B2 HP HD
            go_wp2
            go_roundw
            case rel => exact ⟨i + 1, _, _, a2, c2, false, by omega, by omega, by go_num, rfl, rfl, HM'.out, by omega, HT'.out, V3.out, C3.out _⟩
            case measure => simp [intOf]; omega
        · have z1 : ((m : Int) == 0) = false := by rw [beq_eq_false_iff_ne]; omega
          cases T
          · -- kind 2, not there
            have HD : Hid (∀ u v, Vers u u.heap.size v M → Calls Try.prog 12 #[v, .agg #[.int .i64 0, .int .i64 0, .int .i64 2, .int .i64 0, .int .i64 0, .string ⟨#[100]⟩], .int .i64 1000] u (DoesN M m [] 0 3 m ⟨#[]⟩ u)) := by
              intro u v hv
              obtain ⟨h1, h2⟩ := t_gone M 2 ⟨#[100]⟩ (by omega) (by rw [HM.out]; exact hm0) HTB.out.symm
              rw [HM.out] at h2
              exact do_n v M _ m _ 0 0 2 0 0 _ 1000 3 m ⟨#[]⟩ [] 0 (show _ = _ from h1) (show _ = _ from h2) (by exact HM.out) rfl u hv (Nat.le_refl _) (by rw [HM.out]; omega)
            have HP : Hid (∀ u, Calls Try.prog 18 #[.int .i64 2] u fun e w' => e = .returned (.string ⟨#[100]⟩) ∧ u = w') := fun u => pick_not 2 u (by decide)
            have HT' : Hid (false = tb M) := by
              show _ = _
              exact HTB.out
            have HM' : Hid (M.length = m) := by
              show _ = _
              exact HM.out
            clear HTB
            go_wp2_with fail
            refine (HP.out _).mono ?_
            rintro e w1 ⟨rfl, rfl⟩
            go_wp2_with fail
            refine (HD.out _ _ HV.out).mono ?_
            rintro e w2 ⟨a2, c2, o2, p2, rfl, V2, _, B2⟩
            have V3 := Lib.hid (V2.on ((Below.refl _ w2).alloc (Nat.le_refl _) (.cells #[.int .i64 3, .int .i64 m, .string ⟨#[]⟩, .slice o2 0 p2] 29)))
            have C3 := Lib.hid (fun o => (HB.out.trans (B2.mono HB.out.size)).alloc (HB.out.trans (B2.mono HB.out.size)).size o)
            clear V2 B2 HP HD
            go_wp2
            go_roundw
            case rel => exact ⟨i + 1, _, _, a2, c2, false, by omega, by omega, by go_num, rfl, rfl, HM'.out, by omega, HT'.out, V3.out, C3.out _⟩
            case measure => simp [intOf]; omega
          · -- kind 2, there
            have HD : Hid (∀ u v, Vers u u.heap.size v M → Calls Try.prog 12 #[v, .agg #[.int .i64 0, .int .i64 0, .int .i64 2, .int .i64 0, .int .i64 0, .string ⟨#[100]⟩], .int .i64 1000] u (DoesN (M ++ [(⟨false, ⟨#[100]⟩⟩ : VerV)]) (m + 1) [] 0 1 ((m : Int) + 1) ⟨#[]⟩ u)) := by
              intro u v hv
              obtain ⟨h1, h2⟩ := t_yes M 2 ⟨#[100]⟩ (by omega) HTB.out.symm (by rw [HM.out]; omega)
              rw [HM.out] at h2
              exact do_n v M _ (m + 1) _ 0 0 2 0 0 _ 1000 1 ((m : Int) + 1) ⟨#[]⟩ [] 0 (show _ = _ from h1) (show _ = _ from h2) (by rw [List.length_append, HM.out]; rfl) rfl u hv (Nat.le_refl _) (by rw [HM.out]; omega)
            have HP : Hid (∀ u, Calls Try.prog 18 #[.int .i64 2] u fun e w' => e = .returned (.string ⟨#[100]⟩) ∧ u = w') := fun u => pick_not 2 u (by decide)
            have HT' : Hid (true = tb (M ++ [(⟨false, ⟨#[100]⟩⟩ : VerV)])) := by
              show _ = _
              rw [tb_snoc]; rfl
            have HM' : Hid ((M ++ [(⟨false, ⟨#[100]⟩⟩ : VerV)]).length = (m + 1)) := by
              show _ = _
              rw [List.length_append, HM.out]; rfl
            clear HTB
            go_wp2_with fail
            refine (HP.out _).mono ?_
            rintro e w1 ⟨rfl, rfl⟩
            go_wp2_with fail
            refine (HD.out _ _ HV.out).mono ?_
            rintro e w2 ⟨a2, c2, o2, p2, rfl, V2, _, B2⟩
            have V3 := Lib.hid (V2.on ((Below.refl _ w2).alloc (Nat.le_refl _) (.cells #[.int .i64 1, .int .i64 ((m : Int) + 1), .string ⟨#[]⟩, .slice o2 0 p2] 29)))
            have C3 := Lib.hid (fun o => (HB.out.trans (B2.mono HB.out.size)).alloc (HB.out.trans (B2.mono HB.out.size)).size o)
            clear V2 B2 HP HD
            go_wp2
            go_roundw
            case rel => exact ⟨i + 1, _, _, a2, c2, true, by omega, by omega, by go_num, rfl, rfl, HM'.out, by omega, HT'.out, V3.out, C3.out _⟩
            case measure => simp [intOf]; omega
      · have hx3 : (IntKind.u64.wrap x).tmod 3 = 2 := HX
        clear HX
        by_cases hm0 : m = 0
        · obtain rfl : T = false := by rw [HTB.out]; exact tb_none M (by rw [HM.out]; exact hm0)
          subst hm0
          clear e1
          · -- kind 3, not there, none
            have HD : Hid (∀ u v, Vers u u.heap.size v M → Calls Try.prog 12 #[v, .agg #[.int .i64 0, .int .i64 0, .int .i64 3, .int .i64 0, .int .i64 0, .string ⟨#[]⟩], .int .i64 1000] u (DoesN M 0 [] 0 2 0 ⟨#[]⟩ u)) := by
              intro u v hv
              obtain ⟨h1, h2⟩ := t_none M 3 ⟨#[]⟩ (by omega) HM.out
              rw [HM.out] at h2
              exact do_n v M _ 0 _ 0 0 3 0 0 _ 1000 2 0 ⟨#[]⟩ [] 0 (show _ = _ from h1) (show _ = _ from h2) (by exact HM.out) rfl u hv (Nat.le_refl _) (by rw [HM.out]; omega)
            have HP : Hid (∀ u, Calls Try.prog 18 #[.int .i64 3] u fun e w' => e = .returned (.string ⟨#[]⟩) ∧ u = w') := pick_del
            have HT' : Hid (false = tb M) := by
              show _ = _
              exact HTB.out
            have HM' : Hid (M.length = 0) := by
              show _ = _
              exact HM.out
            clear HTB
            go_wp2_with fail
            refine (HP.out _).mono ?_
            rintro e w1 ⟨rfl, rfl⟩
            go_wp2_with fail
            refine (HD.out _ _ HV.out).mono ?_
            rintro e w2 ⟨a2, c2, o2, p2, rfl, V2, _, B2⟩
            have V3 := Lib.hid (V2.on ((Below.refl _ w2).alloc (Nat.le_refl _) (.cells #[.int .i64 2, .int .i64 0, .string ⟨#[]⟩, .slice o2 0 p2] 29)))
            have C3 := Lib.hid (fun o => (HB.out.trans (B2.mono HB.out.size)).alloc (HB.out.trans (B2.mono HB.out.size)).size o)
            clear V2 B2 HP HD
            go_wp2
            go_roundw
            case rel => exact ⟨i + 1, _, _, a2, c2, false, by omega, by omega, by go_num, rfl, rfl, HM'.out, by omega, HT'.out, V3.out, C3.out _⟩
            case measure => simp [intOf]; omega
        · have z1 : ((m : Int) == 0) = false := by rw [beq_eq_false_iff_ne]; omega
          cases T
          · -- kind 3, not there
            have HD : Hid (∀ u v, Vers u u.heap.size v M → Calls Try.prog 12 #[v, .agg #[.int .i64 0, .int .i64 0, .int .i64 3, .int .i64 0, .int .i64 0, .string ⟨#[]⟩], .int .i64 1000] u (DoesN M m [] 0 3 m ⟨#[]⟩ u)) := by
              intro u v hv
              obtain ⟨h1, h2⟩ := t_gone M 3 ⟨#[]⟩ (by omega) (by rw [HM.out]; exact hm0) HTB.out.symm
              rw [HM.out] at h2
              exact do_n v M _ m _ 0 0 3 0 0 _ 1000 3 m ⟨#[]⟩ [] 0 (show _ = _ from h1) (show _ = _ from h2) (by exact HM.out) rfl u hv (Nat.le_refl _) (by rw [HM.out]; omega)
            have HP : Hid (∀ u, Calls Try.prog 18 #[.int .i64 3] u fun e w' => e = .returned (.string ⟨#[]⟩) ∧ u = w') := pick_del
            have HT' : Hid (false = tb M) := by
              show _ = _
              exact HTB.out
            have HM' : Hid (M.length = m) := by
              show _ = _
              exact HM.out
            clear HTB
            go_wp2_with fail
            refine (HP.out _).mono ?_
            rintro e w1 ⟨rfl, rfl⟩
            go_wp2_with fail
            refine (HD.out _ _ HV.out).mono ?_
            rintro e w2 ⟨a2, c2, o2, p2, rfl, V2, _, B2⟩
            have V3 := Lib.hid (V2.on ((Below.refl _ w2).alloc (Nat.le_refl _) (.cells #[.int .i64 3, .int .i64 m, .string ⟨#[]⟩, .slice o2 0 p2] 29)))
            have C3 := Lib.hid (fun o => (HB.out.trans (B2.mono HB.out.size)).alloc (HB.out.trans (B2.mono HB.out.size)).size o)
            clear V2 B2 HP HD
            go_wp2
            go_roundw
            case rel => exact ⟨i + 1, _, _, a2, c2, false, by omega, by omega, by go_num, rfl, rfl, HM'.out, by omega, HT'.out, V3.out, C3.out _⟩
            case measure => simp [intOf]; omega
          · -- kind 3, there
            have HD : Hid (∀ u v, Vers u u.heap.size v M → Calls Try.prog 12 #[v, .agg #[.int .i64 0, .int .i64 0, .int .i64 3, .int .i64 0, .int .i64 0, .string ⟨#[]⟩], .int .i64 1000] u (DoesN (M ++ [(⟨true, ⟨#[]⟩⟩ : VerV)]) (m + 1) [] 0 1 ((m : Int) + 1) ⟨#[]⟩ u)) := by
              intro u v hv
              obtain ⟨h1, h2⟩ := t_yes M 3 ⟨#[]⟩ (by omega) HTB.out.symm (by rw [HM.out]; omega)
              rw [HM.out] at h2
              exact do_n v M _ (m + 1) _ 0 0 3 0 0 _ 1000 1 ((m : Int) + 1) ⟨#[]⟩ [] 0 (show _ = _ from h1) (show _ = _ from h2) (by rw [List.length_append, HM.out]; rfl) rfl u hv (Nat.le_refl _) (by rw [HM.out]; omega)
            have HP : Hid (∀ u, Calls Try.prog 18 #[.int .i64 3] u fun e w' => e = .returned (.string ⟨#[]⟩) ∧ u = w') := pick_del
            have HT' : Hid (false = tb (M ++ [(⟨true, ⟨#[]⟩⟩ : VerV)])) := by
              show _ = _
              rw [tb_snoc]; rfl
            have HM' : Hid ((M ++ [(⟨true, ⟨#[]⟩⟩ : VerV)]).length = (m + 1)) := by
              show _ = _
              rw [List.length_append, HM.out]; rfl
            clear HTB
            go_wp2_with fail
            refine (HP.out _).mono ?_
            rintro e w1 ⟨rfl, rfl⟩
            go_wp2_with fail
            refine (HD.out _ _ HV.out).mono ?_
            rintro e w2 ⟨a2, c2, o2, p2, rfl, V2, _, B2⟩
            have V3 := Lib.hid (V2.on ((Below.refl _ w2).alloc (Nat.le_refl _) (.cells #[.int .i64 1, .int .i64 ((m : Int) + 1), .string ⟨#[]⟩, .slice o2 0 p2] 29)))
            have C3 := Lib.hid (fun o => (HB.out.trans (B2.mono HB.out.size)).alloc (HB.out.trans (B2.mono HB.out.size)).size o)
            clear V2 B2 HP HD
            go_wp2
            go_roundw
            case rel => exact ⟨i + 1, _, _, a2, c2, false, by omega, by omega, by go_num, rfl, rfl, HM'.out, by omega, HT'.out, V3.out, C3.out _⟩
            case measure => simp [intOf]; omega
    · have hex : i = n ∨ (i = 40 ∧ 40 < n) := by omega
      have X : ∃ (c r : Int) (d : ByteArray), askV M 4 0 = ⟨c, r, d, []⟩ ∧ ((m = 0 ∧ T = false ∧ c = 2) ∨ (((m : Int) == 0) = false ∧ T = true ∧ c = 1) ∨ (((m : Int) == 0) = false ∧ T = false ∧ c = 3)) := by
        have HA := ask_now M
        rw [HM.out] at HA
        by_cases hm0 : m = 0
        · rw [if_pos hm0] at HA
          exact ⟨_, _, _, HA, .inl ⟨hm0, by rw [HTB.out]; exact tb_none M (by rw [HM.out]; exact hm0), rfl⟩⟩
        · rw [if_neg hm0] at HA
          have z1 : ((m : Int) == 0) = false := by rw [beq_eq_false_iff_ne]; omega
          by_cases ht : tb M = true
          · rw [if_pos ht] at HA
            exact ⟨_, _, _, HA, .inr (.inl ⟨z1, by rw [HTB.out]; exact ht, rfl⟩)⟩
          · rw [if_neg ht] at HA
            exact ⟨_, _, _, HA, .inr (.inr ⟨z1, by rw [HTB.out]; simpa using ht, rfl⟩)⟩
      obtain ⟨c, r, d, hask, hcase⟩ := X
      have HD : Hid (∀ u v, Vers u u.heap.size v M → Calls Try.prog 16 #[v, .agg #[.int .i64 0, .int .i64 0, .int .i64 4, .int .i64 0, .int .i64 0, .string ⟨#[]⟩]] u (TellsN [] 0 c r d u)) :=
        fun u v hv => ask_n v M _ 0 0 4 0 0 ⟨#[]⟩ c r d [] 0 (show _ = _ from hask) rfl u hv (Nat.le_refl _) (by rw [HM.out]; omega)
      clear hask HTB e1 hlt
      rcases hcase with ⟨rfl, rfl, rfl⟩ | ⟨z1, rfl, rfl⟩ | ⟨z1, rfl, rfl⟩
      all_goals rcases hex with rfl | ⟨rfl, h40⟩
      all_goals
        go_wp2_with fail
        refine (HD.out _ _ HV.out).mono ?_
        rintro e w1 ⟨o1, p1, rfl, _, B1⟩
        have C1 := Lib.hid (HB.out.trans (B1.mono HB.out.size))
        clear B1
        go_wp2_with fail
        refine (HT.out _).mono ?_
        rintro e w2 ⟨rfl, B2⟩
        have C2 := Lib.hid ((C1.out.alloc C1.out.size _).trans (B2.mono (C1.out.alloc C1.out.size _).size))
        obtain ⟨⟨r0, r1, r2, r3⟩, _⟩ := (RepAt.keep (RepAt.new w1 _ r d (.slice o1 0 p1)) B2 (by simp)).cells
        clear B2
        go_wp2
        go_returns
        exact ⟨rfl, C2.out⟩

theorem walk (v : Value) (L : List Int) (w : World) (hV : Ints w w.heap.size v L) :
    Calls Try.prog 8 #[v] w fun e w' => e = .returned (.bool true) ∧ Below w.heap.size w w' := by
  obtain ⟨ao, cap, rfl, h1, h2, _, hc⟩ := hV
  refine run ao _ cap L w rfl (by unfold maxLen at h2; omega) ?_
  intro i hi
  obtain ⟨b, off, rfl, hb, hc⟩ := hc (by intro e; rw [e] at hi; simp at hi)
  exact ⟨b, off, rfl, fun u hu => (hu.cell (p := ⟨b, off + i, none⟩) hb).trans (hc i hi)⟩

set_option maxRecDepth 100000 in
theorem lifted (os : Os) (started : os.Started) (H : Type) (enc : TypeId × Value → H) :
    ReturnsInHanded {} Try.checked os 8 .any (Rows.chartTurnsSpec.pre6 enc Try.prog Try.f8 Rows.chartTurnsRow.domain false) (Rows.chartTurnsSpec.post enc Try.prog Try.f8 false true false false) := by
  refine returnsInHanded_of_change (C := Try.checked) own started (by kernel_rfl) Try.func8
    (ChangeSpec.witness6 (enc := enc) (C := Try.checked) false ⟨#[], #[.slice none 0 0], []⟩ 8 (by kernel_rfl) (by kernel_rfl) (by kernel_rfl) (by kernel_rfl)) ?_
  intro W base args ds gs before hval0 hW hcnd _
  have hval : ∀ (j : Nat) t v, Try.f8.params[j]? = some t → args[j]? = some v → Value.okWide Try.prog W .any base t v := hval0
  have hW' := hW
  obtain ⟨p, q, hA0, hV, rfl, hfz, hnd⟩ := hW
  have hA : DataW.TrodAll enc Try.prog W 0 (fun _ => true) true Try.f8.params.toList args.toList ds p := hA0
  rw [Try.params8] at hA hval
  obtain ⟨v0, vs0, d0, ds0, p0, q0, hargs, rfl, rfl, h0, r0⟩ := trodAll_cons hA
  obtain ⟨rfl, rfl, rfl⟩ := trodAll_nil r0
  obtain rfl : args = #[v0] := by cases args; simp_all
  obtain ⟨rfl, rfl⟩ := trodVars_none hV
  obtain ⟨a0, len0, cap0, rfl⟩ := okWide_slice Try.underlying27 (hval 0 27 v0 rfl rfl)
  have k0 := h0
  have lt0 : ∀ x ∈ p0, x.block < W.heap.size := by obtain ⟨m, hm⟩ := k0; exact DataW.trod_lt m _ _ _ hm
  obtain ⟨l0, w0⟩ := ints_open h0
  clear hA0 hval0
  refine (walk (.slice a0 len0 cap0) l0 W w0).mono fun e W' ⟨he, bel⟩ => ?_
  subst he
  exact ⟨_, rfl, _, _, _, [], _, [], hW', trodAll_mk1 (shut_bool Try.underlying4 _), (trodAll_cons_mk (Below.trod laidOut (by kernel_rfl) (of_decide_eq_true (by kernel_rfl)) k0 bel lt0) trodAll_mk0), rfl, bel.frame _, fun h => by cases h⟩

theorem over : Rows.chartTurnsRow.holds Try.pinned (OpenSpec.ofChange Rows.chartTurnsSpec) :=
  OpenClaim.holds_of_wide 8 Try.f8 rfl rfl rfl rfl rfl rfl rfl ⟨rfl, rfl, rfl, rfl, rfl⟩ rfl rfl rfl rfl rfl (by kernel_rfl) Try.func8 (by kernel_rfl)
    (of_decide_eq_true (by kernel_rfl)) (by unfold Func.isWrapper; first | (rw [if_pos (by decide +kernel)]; kernel_rfl) | (rw [if_neg (by decide +kernel)]; exact ⟨rfl, rfl⟩))
    (fun os started H enc _ => lifted os started H enc)
end Go.Proofs.Ytichojlijhnlpaa.ChartTurns

namespace Go.Proofs.Ytichojlijhnlpaa
theorem chartTurns_holds : Rows.ChartTurnsSaid := ChartTurns.over
#print axioms chartTurns_holds
end Go.Proofs.Ytichojlijhnlpaa
