/-
  PROVED: casebooklaw8.WalOpens answers true and leaves its arguments as they were, for any slice of slices of bytes, any two numbers and any bytes: the row's own reading and nothing else is assumed.
-/
import Derived.Test.YtpmigpgkicacpaaWalO
import Derived.Test.YtpmigpgkicacpaaWalArgs
namespace Go.Proofs.Ytpmigpgkicacpaa.WalOpens
open Go.ChangeShapes Go.WideShapes Go.ChangeAt Go.RowKit

/-- How many bytes are synced when i records are put. -/
def sy (L : List (List UInt8)) (i k : Nat) : Nat := if k ≤ i then (frs (L.take k)).length else 0
theorem sy_next (L : List (List UInt8)) (i k : Nat) (h : i + 1 ≠ k) : sy L (i + 1) k = sy L i k := by
  unfold sy
  by_cases h1 : k ≤ i
  · rw [if_pos h1, if_pos (by omega)]
  · rw [if_neg h1, if_neg (by omega)]
theorem sy_zero (L : List (List UInt8)) (k : Nat) : sy L 0 k = 0 := by
  unfold sy
  by_cases h : k ≤ 0
  · obtain rfl : k = 0 := by omega
    rw [if_pos (Nat.le_refl _)]; rfl
  · rw [if_neg h]
theorem sy_here (L : List (List UInt8)) (i : Nat) : sy L (i + 1) (i + 1) = (frs (L.take (i + 1))).length := by
  unfold sy
  rw [if_pos (Nat.le_refl _)]

set_option maxRecDepth 100000 in
set_option maxHeartbeats 4000000 in
theorem walk (v : Value) (L : List (List UInt8)) (a1 keep : Int) (vm : Value) (lm : List UInt8) (w : World) (hL : BytsAt w w.heap.size v L) (_ : (Lit.int .i64 a1).wf = true) (_ : (Lit.int .i64 keep).wf = true) (hM : Byt w w.heap.size vm lm) :
    Calls Try.prog 5 #[v, .int .i64 a1, .int .i64 keep, vm] w fun e w' => e = .returned (.bool true) ∧ Below w.heap.size w w' := by
  have HT := Lib.hid (fun u => told8_any u)
  obtain ⟨i2, gi, gz0, gz1, gz2⟩ := info_parts info_str8
  have HNW := Lib.hid (o_new w w w.heap.size (Below.refl _ _) (Nat.le_refl _))
  obtain ⟨ao, cap, rfl, hcap, hcm, hat⟩ := id hL
  obtain ⟨am, cm, rfl, _⟩ := id hM
  have HAT : Hid (∀ i, i < L.length → ∃ b off a c, ao = some ⟨b, off, none⟩ ∧ b < w.heap.size ∧ w.cell? ⟨b, off + i, none⟩ = some (.slice a (L.getD i []).length c) ∧ Byt w w.heap.size (.slice a (L.getD i []).length c) (L.getD i [])) := fun i hi => by
    obtain ⟨b, off, e, hb, hc⟩ := hat (fun e => by subst e; simp at hi)
    obtain ⟨u, hu, hy⟩ := hc i hi
    obtain ⟨a, c, rfl, _⟩ := id hy
    exact ⟨b, off, a, c, e, hb, hu, hy⟩
  obtain ⟨n, hn⟩ : ∃ n, n = L.length := ⟨_, rfl⟩
  rw [← hn] at HAT ⊢
  have HN := Lib.hid hn
  have HMM := Lib.hid hM
  obtain ⟨lq, hlq⟩ : ∃ q, q = lm.length := ⟨_, rfl⟩
  rw [← hlq] at HMM ⊢
  have HLQ := Lib.hid hlq
  obtain ⟨g, hg⟩ : ∃ g, g = w.heap.size := ⟨_, rfl⟩
  have HG := Lib.hid hg
  rw [← hg] at HNW
  have HNWE : Hid (Calls Try.prog 14 #[] w fun e w' => e = .returned (.pointer (some ⟨g, 0, none⟩)) ∧ Hid (DkO g w g [] 0 w')) := HNW.out
  clear hL hM hcap hcm hat hn hlq hg HNW
  by_cases hgd : 10 < n ∨ lq < 1 ∨ 60 < lq
  · rcases (show 10 < n ∨ (n ≤ 10 ∧ lq < 1) ∨ (n ≤ 10 ∧ 1 ≤ lq ∧ 60 < lq) by omega) with h | ⟨h, h'⟩ | ⟨h, h', h''⟩
    all_goals
      clear hgd
      go_enter Try.func5, Try.ntmps5
      go_wp2_with fail
      refine HNWE.out.mono ?_
      rintro e w1 ⟨rfl, H1⟩
      have B1 : Hid (Below w.heap.size w w1) := by have := H1.out.bel; rwa [HG.out] at this
      go_wp2_with (go_at_call 8; (with_reducible refine (HT.out _).mono ?_); rintro e w9 ⟨rfl, hb⟩; have B9 := Lib.hid hb; clear hb)
      go_returns
      exact ⟨rfl, B1.out.trans (B9.out.mono B1.out.size)⟩
  · have hn10 : n ≤ 10 := by omega
    have hq1 : 1 ≤ lq := by omega
    have hq60 : lq ≤ 60 := by omega
    clear hgd
    go_enter Try.func5, Try.ntmps5
    go_wp2_with fail
    refine HNWE.out.mono ?_
    rintro e w1 ⟨rfl, H1⟩
    have B1 : Hid (Below w.heap.size w w1) := by have := H1.out.bel; rwa [HG.out] at this
    have hs1 := B1.out.size
    go_wp2_with fail
    go_loop [10] (fun vi => ∃ i : Nat, i ≤ n ∧ vi = .int .i64 i ∧ ∀ r ∈ L.take i, 1 ≤ r.length ∧ r.length ≤ 60) (fun vi => n - (intOf vi).toNat)
    case atStart => exact ⟨0, by omega, rfl, by simp⟩
    case round =>
      obtain ⟨i, hin, rfl, hall⟩ := hrel
      have HALL := Lib.hid hall
      clear hall
      by_cases hlt : i < n
      · obtain ⟨b, off, a, c, rfl, hb, hcell, hy⟩ := HAT.out i hlt
        have hcw : w1.cell? ⟨b, off + i, none⟩ = some (.slice a (L.getD i []).length c) := (B1.out.cell (p := ⟨b, off + i, none⟩) hb).trans hcell
        have HR : Hid (L.take (i + 1) = L.take i ++ [L.getD i []]) := take_snoc' L i (by rw [← HN.out]; exact hlt)
        clear hcell hy
        generalize L.getD i [] = r at hcw HR
        obtain ⟨q, hqq⟩ : ∃ q, q = r.length := ⟨_, rfl⟩
        rw [← hqq] at hcw
        have HQ := Lib.hid hqq
        clear hqq
        by_cases hq : 1 ≤ q ∧ q ≤ 60
        · have hd1 : decide ((q : Int) < 1) = false := decide_eq_false (by omega)
          have hd2 : decide (60 < (q : Int)) = false := decide_eq_false (by omega)
          go_wp2
          go_round
          case rel =>
            refine ⟨i + 1, by omega, by go_num, ?_⟩
            rw [HR.out]
            intro x hx
            rcases List.mem_append.1 hx with hx | hx
            · exact HALL.out x hx
            · rw [List.mem_singleton.1 hx, ← HQ.out]; exact hq
          case measure => simp [intOf]; omega
        · rcases (show q < 1 ∨ (1 ≤ q ∧ 60 < q) by omega) with hq' | ⟨hq', hq''⟩
          all_goals
            clear hq
            go_wp2_with (go_at_call 8; (with_reducible refine (HT.out _).mono ?_); rintro e w9 ⟨rfl, hb⟩; have B9 := Lib.hid hb; clear hb)
            go_returns
            exact ⟨rfl, B1.out.trans (B9.out.mono hs1)⟩
      · obtain rfl : i = n := by omega
        have htk : L.take i = L := by rw [HN.out]; exact List.take_length
        rw [htk] at HALL
        have HOK : Hid (∀ r ∈ L, okR r) := fun r hr => by
          have := HALL.out r hr
          exact ⟨this.1, by omega⟩
        have hfl : ∀ j, (frs (L.take j)).length ≤ 1000 := fun j => by
          have h1 := frs_bound L 60 fun r hr => (HALL.out r hr).2
          have h2 := Nat.mul_le_mul_right (60 + 6) (show L.length ≤ 10 by rw [← HN.out]; exact hn10)
          have h3 := frs_take_le L j
          omega
        have HFL := Lib.hid hfl
        obtain ⟨A, hA⟩ : ∃ A : Nat, IntKind.u64.wrap a1 = (A : Int) := ⟨(IntKind.u64.wrap a1).toNat, by rw [IntKind.wrap_u64]; omega⟩
        have hz : (((i : Int) + 1) == 0) = false := by rw [beq_eq_false_iff_ne]; omega
        have hk : (A : Int) % ((i : Int) + 1) = ((A % (i + 1) : Nat) : Int) := by rw [Int.natCast_emod, Int.natCast_add]; rfl
        have hkl : A % (i + 1) ≤ i := by have := Nat.mod_lt A (show 0 < i + 1 by omega); omega
        generalize A % (i + 1) = k at hk hkl
        have wf1 : IntKind.u64.wrap ((i : Int) + 1) = (i : Int) + 1 := IntWalk.u64_in _ (by omega)
        have wf2 : IntKind.i64.wrap (k : Int) = (k : Int) := IntWalk.i64_in _ (by omega)
        have wf3 : IntKind.i64.wrap ((i : Int) + 1) = (i : Int) + 1 := IntWalk.i64_in _ (by omega)
        clear htk hfl hlt
        go_wp2
        clear hA hz hk wf1 wf2 wf3
        go_loopw [12, 13] (fun va vi wr => ∃ j : Nat, j ≤ i ∧ vi = .int .i64 j ∧ DkO g w g (frs (L.take j)) (sy L j k) wr ∧ wr.ownsRow g 9 1 va (strCells (L.take j)).length (strCells (L.take j))) (fun _ vi _ => i - (intOf vi).toNat)
        case atStart => exact ⟨0, by omega, rfl, by rw [sy_zero]; exact H1.out, World.ownsRow_nil _ _ _ _⟩
        case round =>
          obtain ⟨j, hji, rfl, hd, hrow⟩ := hrel
          obtain ⟨ta, tc, rfl⟩ := own_shape hrow
          have HD := Lib.hid hd
          have HROW := Lib.hid hrow
          have HBEL : Hid (Below w.heap.size w wr) := by have := hd.bel; rwa [HG.out] at this
          have hsz := HBEL.out.size
          have hfj := HFL.out j
          clear hd hrow
          by_cases hlt : j < i
          · obtain ⟨b, off, a, c, rfl, hb, hcell, hy⟩ := HAT.out j hlt
            have hcw : wr.cell? ⟨b, off + j, none⟩ = some (.slice a (L.getD j []).length c) := (HBEL.out.cell (p := ⟨b, off + j, none⟩) hb).trans hcell
            have HC := Lib.hid hcell
            have HY := Lib.hid hy
            have HR : Hid (L.take (j + 1) = L.take j ++ [L.getD j []]) := take_snoc' L j (by rw [← HN.out]; exact hlt)
            have hmem : L.getD j [] ∈ L := by
              rw [show L.getD j [] = L[j]'(by rw [← HN.out]; exact hlt) by simp [List.getD, show j < L.length by rw [← HN.out]; exact hlt]]
              exact List.getElem_mem _
            have HRO := Lib.hid (HOK.out _ hmem)
            have hrl := (HALL.out _ hmem).2
            have hTl : (strCells (L.take j)).length ≤ 10 := by rw [strCells_length, List.length_take]; omega
            clear hcell hy hmem
            generalize L.getD j [] = r at hcw HC HY HR HRO hrl
            have HPut : Hid (Calls Try.prog 15 #[.pointer (some ⟨g, 0, none⟩), .slice a r.length c] wr fun e w' => e = .returned (.int .i64 0) ∧ Hid (DkO g w g (frs (L.take (j + 1))) (sy L j k) w' ∧ KeepS wr w')) := by
              have h := wput_yes HD.out (HY.out.keep HBEL.out) hsz HRO.out (by rw [frm_length]; omega)
              rw [← frs_one, ← frs_append, ← HR.out] at h
              exact h
            obtain ⟨q, hqq⟩ : ∃ q, q = r.length := ⟨_, rfl⟩
            rw [← hqq] at hcw HC HY HPut
            have HQ := Lib.hid hqq
            clear hqq hrl
            go_wp2_with fail
            refine HPut.out.mono ?_
            rintro e w2 ⟨rfl, HP⟩
            have B2 : Hid (Below w.heap.size w w2) := by have := HP.out.1.bel; rwa [HG.out] at this
            have hcw2 : w2.cell? ⟨b, off + j, none⟩ = some (.slice a q c) := (B2.out.cell (p := ⟨b, off + j, none⟩) hb).trans HC.out
            have hcr := run_conv_byt (HY.out.keep B2.out)
            have HROW2 := Lib.hid (row_keepS HROW.out HP.out.2)
            have hsrc1 : Hid (Src Try.prog 1 30 (.slice (some ⟨w2.heap.size, 0, none⟩) 1 1) 1 [Value.string ⟨r.toArray⟩] (w2.alloc (.cells #[Value.string ⟨r.toArray⟩] 9))) := src_str w2 _
            have hs2 := B2.out.size
            have hg2 : g ≤ w2.heap.size := by rw [HG.out]; exact hs2
            clear hcw
            go_wp2_with (at_builtin; refine wpList_append_own_src rfl (.tmp 77) (.tmp 83) 30 30 rfl g 9 i2 (.string ⟨#[]⟩) 1 16 Try.underlying30 gi gz0 gz1 gz2 rfl _ _ _ rfl (HROW2.out.alloc (.cells #[Value.string ⟨r.toArray⟩] 9)) _ 1 [Value.string ⟨r.toArray⟩] rfl hsrc1.out ?c3 ?c4 ?c5 ?_)
            case c3 => unfold maxLen; omega
            case c4 => omega
            case c5 => simp; omega
            intro vx w3 hx gx
            have HD3 := Lib.hid (dko_row (HP.out.1.on ((Below.refl _ _).alloc (Nat.le_refl _) (.cells #[Value.string ⟨r.toArray⟩] 9))) (HROW2.out.alloc (.cells #[Value.string ⟨r.toArray⟩] 9)) gx)
            have HX3 : Hid (w3.ownsRow g 9 1 vx (strCells (L.take (j + 1))).length (strCells (L.take (j + 1)))) := by
              show World.ownsRow _ _ _ _ _ _ _
              rw [HR.out, strCells_snoc, List.length_append, List.length_singleton]
              exact hx
            obtain ⟨xa, xc, rfl⟩ := own_shape hx
            clear hx gx hcw2 hcr
            by_cases hjk : j + 1 = k
            · have HSy : Hid (Calls Try.prog 16 #[.pointer (some ⟨g, 0, none⟩)] w3 fun e w' => e = .returned (.tuple #[]) ∧ Hid (DkO g w g (frs (L.take (j + 1))) (sy L (j + 1) k) w' ∧ KeepS w3 w')) := by
                have h := ks_sync HD3.out
                rw [← sy_here L j, hjk, ← hjk] at h
                rw [← hjk]
                exact h
              have hjk' : (j : Int) + 1 = (k : Int) := by omega
              have heq : (((j : Int) + 1) == (k : Int)) = true := by simp [hjk']
              have HJK := Lib.hid hjk
              clear hjk hjk'
              go_wp2_with fail
              refine HSy.out.mono ?_
              rintro e w4 ⟨rfl, H4⟩
              go_wp2
              go_roundw
              case rel => exact ⟨j + 1, by omega, by go_num, H4.out.1, row_keepS HX3.out H4.out.2⟩
              case measure => simp [intOf]; omega
            · have heq : (((j : Int) + 1) == (k : Int)) = false := by rw [beq_eq_false_iff_ne]; omega
              have HJK := Lib.hid hjk
              clear hjk
              go_wp2
              go_roundw
              case rel => exact ⟨j + 1, by omega, by go_num, by rw [sy_next L j k HJK.out]; exact HD3.out, HX3.out⟩
              case measure => simp [intOf]; omega
          · obtain rfl : j = i := by omega
            have htk : L.take j = L := by rw [HN.out]; exact List.take_length
            have hsy : sy L j k = (frs (L.take k)).length := by unfold sy; rw [if_pos hkl]
            rw [htk, hsy] at HD
            have hsl0 : (strCells (L.take j)).length = j := by rw [htk, strCells_length]; exact HN.out.symm
            rw [hsl0]
            rw [htk] at hsl0 HROW hfj
            rw [hsl0] at HROW
            obtain ⟨m, hm⟩ : ∃ m, m = crashN (frs L).length (frs (L.take k)).length keep := ⟨_, rfl⟩
            have hkle := frs_take_le L k
            have hm1 : (frs (L.take k)).length ≤ m := by rw [hm]; unfold crashN; omega
            have hm2 : m ≤ (frs L).length := by rw [hm]; unfold crashN; omega
            obtain ⟨p, rest, hp, hcut, hr0, hiff⟩ := frs_cut L m HOK.out
            have hkp : k ≤ p := (hiff k (by rw [← HN.out]; exact hkl)).1 hm1
            rw [← HN.out] at hp
            have hpl : (L.take p).length = p := by rw [List.length_take, ← HN.out]; omega
            have HPL := Lib.hid hpl
            have HPOK : Hid (∀ r ∈ L.take p, okR r) := fun r hr => HOK.out r (List.mem_of_mem_take hr)
            obtain ⟨Y, hY⟩ : ∃ Y, Y = (frs L).take m := ⟨_, rfl⟩
            have hYl : Y.length = m := by rw [hY, List.length_take]; omega
            rw [← hY] at hcut
            have hrds : Rds Y (L.take p) (frs (L.take p)).length := by rw [hcut]; exact Rds.of HPOK.out hr0
            have HYT : Hid (Y.take (frs (L.take p)).length = frs (L.take p)) := by show _ = _; rw [hcut, List.take_left]
            obtain ⟨F, hF⟩ : ∃ F, F = (frs (L.take p)).length := ⟨_, rfl⟩
            have hFl : F ≤ 1000 := by rw [hF]; exact HFL.out p
            rw [← hF] at hrds HYT
            have HFE := Lib.hid hF
            have HRDS := Lib.hid hrds
            have HCr : Hid (Calls Try.prog 17 #[.pointer (some ⟨g, 0, none⟩), .int .i64 keep] wr fun e w' => e = .returned (.tuple #[]) ∧ Hid (DkO g w g Y m w' ∧ KeepS wr w')) := by
              have h := ks_crash HD.out (by omega) keep
              rw [← hm, ← hY] at h
              exact h
            obtain ⟨P, hP⟩ : ∃ P, P = L.take p := ⟨_, rfl⟩
            rw [← hP] at HPL HPOK HYT HFE HRDS
            have HPP := Lib.hid hP
            have HBy : Hid (∀ u, DkO g w g Y m u → Calls Try.prog 18 #[.pointer (some ⟨g, 0, none⟩)] u fun e w' => ∃ a c, e = .returned (.slice a m c) ∧ (convert 22 9 (.slice a m c)).run Try.prog w' = .ok (.string ⟨Y.toArray⟩) w' ∧ Below u.heap.size u w') := fun u hu => by
              refine (o_bytes hu (by omega)).mono ?_
              rintro e w' ⟨a, c, rfl, hy, _, hb⟩
              rw [hYl] at hy ⊢
              exact ⟨a, c, rfl, run_conv_byt hy, hb⟩
            have HRf : Hid (∀ u, Calls Try.prog 12 #[.string ⟨Y.toArray⟩] u fun e u' => ∃ a c, e = .returned (.tuple #[.slice a p c, .int .i64 (F : Int)]) ∧ Hid (u'.ownsRow u.heap.size 9 1 (.slice a p c) p (strCells P)) ∧ Below u.heap.size u u') := fun u => by
              refine (refread_any ⟨Y.toArray⟩ u (by show Y.toArray.size ≤ _; rw [List.size_toArray]; omega)).mono ?_
              rintro e u' ⟨M, mm, hr, v', rfl, h1, h2⟩
              obtain ⟨rfl, rfl⟩ := hr.unique HRDS.out
              obtain ⟨a, c, rfl⟩ := own_shape h1
              rw [HPL.out] at h1 ⊢
              exact ⟨a, c, rfl, h1, h2⟩
            have HOp : Hid (∀ u, DkO g w g Y m u → Calls Try.prog 19 #[.pointer (some ⟨g, 0, none⟩)] u fun e w' => ∃ a c, e = .returned (.slice a p c) ∧ Hid (Recs w' g (.slice a p c) P) ∧ Hid (DkO g w g (frs P) F w') ∧ Hid (KeepS u w')) := fun u hu => by
              refine (wopen_any hu (by omega)).mono ?_
              rintro e w' ⟨M, mm, a, c, rfl, hr, h1, h2, h3⟩
              obtain ⟨rfl, rfl⟩ := hr.out.unique HRDS.out
              rw [HPL.out] at h1 ⊢
              rw [HYT.out] at h2
              exact ⟨a, c, rfl, h1, h2, h3⟩
            have hokm : okR lm := ⟨by rw [← HLQ.out]; exact hq1, by rw [← HLQ.out]; omega⟩
            have HPut : Hid (∀ u, DkO g w g (frs P) F u → Calls Try.prog 15 #[.pointer (some ⟨g, 0, none⟩), .slice am lq cm] u fun e w' => e = .returned (.int .i64 0) ∧ Hid (DkO g w g (frs P ++ frm lm) F w')) := fun u hu => by
              have hbu := hu.bel
              rw [HG.out] at hbu
              exact (wput_yes hu (HMM.out.keep hbu) hbu.size hokm (by rw [← HFE.out, frm_length, ← HLQ.out]; omega)).mono fun e w' ⟨he, h1, _⟩ => ⟨he, h1⟩
            obtain ⟨n1, hn1⟩ : ∃ n1, n1 = p + 1 := ⟨_, rfl⟩
            have HN1 := Lib.hid hn1
            have HOp2 : Hid (∀ u, DkO g w g (frs P ++ frm lm) F u → Calls Try.prog 19 #[.pointer (some ⟨g, 0, none⟩)] u fun e w' => ∃ a c x, e = .returned (.slice (some ⟨a, 0, none⟩) n1 c) ∧ (∃ xa xn xc, x = .slice xa xn xc) ∧ w'.cell? ⟨a, p, none⟩ = some x ∧ a < w'.heap.size ∧ Hid (Byt w' w'.heap.size x lm) ∧ Hid (Below w.heap.size w w')) := fun u hu => by
              refine (wopen_any hu (by rw [List.length_append, ← HFE.out, frm_length, ← HLQ.out]; omega)).mono ?_
              rintro e w' ⟨M, mm, a, c, rfl, hr, h1, h2, h3⟩
              have hu2 := Rds.of (L := P ++ [lm]) (rest := []) (by intro r hr; rcases List.mem_append.1 hr with hr | hr; exact HPOK.out r hr; rw [List.mem_singleton.1 hr]; exact hokm) rfl
              rw [List.append_nil, frs_append, frs_one] at hu2
              obtain ⟨rfl, rfl⟩ := hr.out.unique hu2
              have hbw := h2.out.bel
              rw [HG.out] at hbw
              obtain ⟨vals, q1, q2⟩ := h1.out
              have hlen : (P ++ [lm]).length = p + 1 := by rw [List.length_append, HPL.out]; rfl
              rcases q1.2 with ⟨_, h0⟩ | ⟨gg, cap', cur, he, _, hh, _⟩
              · rw [hlen] at h0; omega
              · simp only [Value.slice.injEq] at he
                obtain ⟨rfl, _, rfl⟩ := he
                obtain ⟨x, hx, hrow⟩ := q2 p (by rw [hlen]; omega)
                have hc := q1.cells (g := gg) rfl p x hx
                rw [Addr.add_lit, Nat.zero_add] at hc
                have hgd : (P ++ [lm]).getD p [] = lm := by
                  simp only [List.getD]
                  rw [List.getElem?_append_right (by rw [HPL.out]; exact Nat.le_refl _), HPL.out, Nat.sub_self]
                  rfl
                rw [hgd] at hrow
                obtain ⟨xa, xc, rfl⟩ := own_shape hrow
                exact ⟨gg, _, _, by rw [hlen, HN1.out], ⟨_, _, _, rfl⟩, hc, World.block_lt_of_cell? _ _ hc, byt_own hrow (Nat.le_refl _), hbw⟩
            have HTC : Hid (p ≤ tc) := by
              obtain ⟨_, _, he, hle, _⟩ := strs_own HROW.out
              simp only [Value.slice.injEq] at he
              have : j ≤ tc := by rw [he.2.1, he.2.2]; exact hle
              exact Nat.le_trans hp this
            have hsl := fun u => run_to 30 Try.underlying30 size_str ta j tc p p rfl HTC.out u
            have hsl1 := fun u => (hsl u).1
            have hsl2 := fun u => (hsl u).2
            have HYL := Lib.hid hYl
            have HPJ : Hid (P.length ≤ 1000000) := by show _ ≤ _; rw [HPL.out]; omega
            clear htk hsy hsl0 hm hkle hm1 hm2 hcut hr0 hiff hpl hY hYl hrds hF hP hokm hsl hlt hn1
            go_wp2_with fail
            refine HCr.out.mono ?_
            rintro e w4 ⟨rfl, H4⟩
            go_wp2_with fail
            refine (HBy.out w4 H4.out.1).mono ?_
            rintro e w5 ⟨ba, bc, rfl, hcv, hb5⟩
            have D5 := Lib.hid (H4.out.1.on hb5)
            have S5 := Lib.hid (H4.out.2.trans (KeepS.of hb5))
            clear hb5
            go_wp2_with fail
            refine (HRf.out w5).mono ?_
            rintro e w6 ⟨wa, wc, rfl, W6, hb6⟩
            have D6 := Lib.hid (D5.out.on hb6)
            have S6 := Lib.hid (S5.out.trans (KeepS.of hb6))
            clear hb6 hcv
            go_wp2_with fail
            refine (HOp.out w6 D6.out).mono ?_
            rintro e w7 ⟨oa, oc, rfl, R7, D7, K7⟩
            have A7 := Lib.hid (row_keepS HROW.out (S6.out.trans K7.out))
            have G7 := Lib.hid (texts_yes (.slice oa p oc) (.slice wa p wc) w7.heap.size P w7 R7.out.at (strs_own (row_keepS W6.out K7.out)) HPJ.out)
            go_wp2_with fail
            refine G7.out.mono ?_
            rintro e w8 ⟨rfl, n8, rfl⟩
            have D8 := Lib.hid (D7.out.on (⟨rfl, rfl, rfl, Nat.le_refl _, fun _ _ => rfl⟩ : Below w7.heap.size w7 (w7.drewN n8)))
            have HLen : Hid (Calls Try.prog 20 #[.pointer (some ⟨g, 0, none⟩)] (w7.drewN n8) fun e w' => e = .returned (.int .i64 (F : Int)) ∧ w7.drewN n8 = w') := by
              have h := o_len D8.out
              rw [← HFE.out] at h
              exact h
            go_wp2_with fail
            refine HLen.out.mono ?_
            rintro e w9 ⟨rfl, rfl⟩
            go_wp2_with fail
            refine (o_synced D8.out).mono ?_
            rintro e w9 ⟨rfl, rfl⟩
            have G8 : Hid (Calls Try.prog 13 #[.slice oa p oc, .slice ta p tc] (w7.drewN n8) fun e w' => e = .returned (.bool true) ∧ ∃ n, w' = (w7.drewN n8).drewN n) := by
              have h := (strs_own A7.out).to p (by rw [← HN.out]; exact hp)
              rw [← HPP.out] at h
              exact texts_yes _ _ w7.heap.size P (w7.drewN n8) (R7.out.at.keep ⟨rfl, rfl, rfl, Nat.le_refl _, fun _ _ => rfl⟩) (h.keep ⟨rfl, rfl, rfl, Nat.le_refl _, fun _ _ => rfl⟩) HPJ.out
            go_wp2_with fail
            all_goals first
              | (exfalso; omega)
              | skip
            refine G8.out.mono ?_
            rintro e w9 ⟨rfl, n9, rfl⟩
            have D9 := Lib.hid (D7.out.on (⟨rfl, rfl, rfl, Nat.le_refl _, fun _ _ => rfl⟩ : Below w7.heap.size w7 (w7.drewN (n8 + n9))))
            clear hsl1 hsl2
            go_wp2_with fail
            refine (HPut.out _ D9.out).mono ?_
            rintro e w10 ⟨rfl, D10⟩
            go_wp2_with fail
            refine (HOp2.out _ D10.out).mono ?_
            rintro e w11 ⟨ga, gc, x, rfl, ⟨xa, xn, xc, rfl⟩, hx11, hga, Y11, B11⟩
            have X11 := Lib.hid hx11
            have FX : Hid (∀ u, Below w11.heap.size w11 u → u.cell? ⟨ga, p, none⟩ = some (.slice xa xn xc) ∧ (convert 22 9 (.slice xa xn xc)).run Try.prog u = .ok (.string ⟨lm.toArray⟩) u ∧ (convert 22 9 (.slice am lq cm)).run Try.prog u = .ok (.string ⟨lm.toArray⟩) u) := fun u hu =>
              ⟨(hu.cell (p := ⟨ga, p, none⟩) hga).trans X11.out, run_conv_byt (Y11.out.keep hu), run_conv_byt (HMM.out.keep (B11.out.trans (hu.mono B11.out.size)))⟩
            obtain ⟨Z, hZ⟩ : ∃ Z : ByteArray, Z = ⟨lm.toArray⟩ := ⟨_, rfl⟩
            rw [← hZ] at FX
            have sw : IntKind.i64.wrap ((p : Int) + 1) = (n1 : Int) := by rw [IntWalk.i64_in _ (by omega)]; have := HN1.out; omega
            have hlp : p < n1 := by have := HN1.out; omega
            clear hZ hx11
            go_wp2_with fail
            refine wp_region_held_drew (S := fun u => Below w11.heap.size w11 u) (by kernel_rfl) (⟨rfl, rfl, rfl, Nat.le_refl _, fun _ _ => rfl⟩) (fun hHeld => ?_)
            refine held_call 0 147 rfl rfl (by kernel_rfl) (by rfl) (fun K hK => ?_)
            simp only [Go.wp_at_zero]
            go_simp
            go_at_call 8
            (with_reducible refine (HT.out _).mono ?_)
            rintro e u1 ⟨rfl, hb⟩
            have U1 : Below w11.heap.size w11 u1 := hHeld.trans (hb.mono hHeld.size)
            clear hb
            first | (with_reducible refine hK.out _ _ ?_ (fun hHeld => ?_)) | (go_wp2_with fail; refine hK.out _ _ ?_ (fun hHeld => ?_))
            · exact U1
            clear hK K
            try simp only [Act.put, List.setIfInBounds_toArray, List.set_cons_zero, List.set_cons_succ]
            first
              | (refine held_take 1 148 (v := ?_) rfl rfl (by kernel_rfl) (by kernel_rfl) (by kernel_rfl) (fun _ _ _ h => h) (by assumption) (by rfl) ?_ ?_; rotate_left; (focus (intro w hSw; (obtain ⟨z1, z2, z3⟩ := FX.out _ hSw); go_simp <;> with_reducible rfl)))
              | refine held_pass 1 148 rfl rfl (by kernel_rfl) (by kernel_rfl) (by kernel_rfl) (fun _ _ _ h => h) (by assumption) (by rfl) ?_
            simp only [Act.put, List.setIfInBounds_toArray, List.set_cons_zero, List.set_cons_succ]
            first
              | (refine held_take 2 149 (v := ?_) rfl rfl (by kernel_rfl) (by kernel_rfl) (by kernel_rfl) (fun _ _ _ h => h) (by assumption) (by rfl) ?_ ?_; rotate_left; (focus (intro w hSw; (obtain ⟨z1, z2, z3⟩ := FX.out _ hSw); go_simp <;> with_reducible rfl)))
              | refine held_pass 2 149 rfl rfl (by kernel_rfl) (by kernel_rfl) (by kernel_rfl) (fun _ _ _ h => h) (by assumption) (by rfl) ?_
            simp only [Act.put, List.setIfInBounds_toArray, List.set_cons_zero, List.set_cons_succ]
            first
              | (refine held_take 3 150 (v := ?_) rfl rfl (by kernel_rfl) (by kernel_rfl) (by kernel_rfl) (fun _ _ _ h => h) (by assumption) (by rfl) ?_ ?_; rotate_left; (focus (intro w hSw; (obtain ⟨z1, z2, z3⟩ := FX.out _ hSw); go_simp <;> with_reducible rfl)))
              | refine held_pass 3 150 rfl rfl (by kernel_rfl) (by kernel_rfl) (by kernel_rfl) (fun _ _ _ h => h) (by assumption) (by rfl) ?_
            simp only [Act.put, List.setIfInBounds_toArray, List.set_cons_zero, List.set_cons_succ]
            first
              | (refine held_take 4 151 (v := ?_) rfl rfl (by kernel_rfl) (by kernel_rfl) (by kernel_rfl) (fun _ _ _ h => h) (by assumption) (by rfl) ?_ ?_; rotate_left; (focus (intro w hSw; (obtain ⟨z1, z2, z3⟩ := FX.out _ hSw); go_simp <;> with_reducible rfl)))
              | refine held_pass 4 151 rfl rfl (by kernel_rfl) (by kernel_rfl) (by kernel_rfl) (fun _ _ _ h => h) (by assumption) (by rfl) ?_
            simp only [Act.put, List.setIfInBounds_toArray, List.set_cons_zero, List.set_cons_succ]
            first
              | (refine held_take 5 152 (v := ?_) rfl rfl (by kernel_rfl) (by kernel_rfl) (by kernel_rfl) (fun _ _ _ h => h) (by assumption) (by rfl) ?_ ?_; rotate_left; (focus (intro w hSw; (obtain ⟨z1, z2, z3⟩ := FX.out _ hSw); go_simp <;> with_reducible rfl)))
              | refine held_pass 5 152 rfl rfl (by kernel_rfl) (by kernel_rfl) (by kernel_rfl) (fun _ _ _ h => h) (by assumption) (by rfl) ?_
            simp only [Act.put, List.setIfInBounds_toArray, List.set_cons_zero, List.set_cons_succ]
            first
              | (refine held_take 6 153 (v := ?_) rfl rfl (by kernel_rfl) (by kernel_rfl) (by kernel_rfl) (fun _ _ _ h => h) (by assumption) (by rfl) ?_ ?_; rotate_left; (focus (intro w hSw; (obtain ⟨z1, z2, z3⟩ := FX.out _ hSw); go_simp <;> with_reducible rfl)))
              | refine held_pass 6 153 rfl rfl (by kernel_rfl) (by kernel_rfl) (by kernel_rfl) (fun _ _ _ h => h) (by assumption) (by rfl) ?_
            simp only [Act.put, List.setIfInBounds_toArray, List.set_cons_zero, List.set_cons_succ]
            first
              | (refine held_take 7 154 (v := ?_) rfl rfl (by kernel_rfl) (by kernel_rfl) (by kernel_rfl) (fun _ _ _ h => h) (by assumption) (by rfl) ?_ ?_; rotate_left; (focus (intro w hSw; (obtain ⟨z1, z2, z3⟩ := FX.out _ hSw); go_simp <;> with_reducible rfl)))
              | refine held_pass 7 154 rfl rfl (by kernel_rfl) (by kernel_rfl) (by kernel_rfl) (fun _ _ _ h => h) (by assumption) (by rfl) ?_
            simp only [Act.put, List.setIfInBounds_toArray, List.set_cons_zero, List.set_cons_succ]
            first
              | (refine held_take 8 155 (v := ?_) rfl rfl (by kernel_rfl) (by kernel_rfl) (by kernel_rfl) (fun _ _ _ h => h) (by assumption) (by rfl) ?_ ?_; rotate_left; (focus (intro w hSw; (obtain ⟨z1, z2, z3⟩ := FX.out _ hSw); go_simp <;> with_reducible rfl)))
              | refine held_pass 8 155 rfl rfl (by kernel_rfl) (by kernel_rfl) (by kernel_rfl) (fun _ _ _ h => h) (by assumption) (by rfl) ?_
            simp only [Act.put, List.setIfInBounds_toArray, List.set_cons_zero, List.set_cons_succ]
            first
              | (refine held_take 9 156 (v := ?_) rfl rfl (by kernel_rfl) (by kernel_rfl) (by kernel_rfl) (fun _ _ _ h => h) (by assumption) (by rfl) ?_ ?_; rotate_left; (focus (intro w hSw; (obtain ⟨z1, z2, z3⟩ := FX.out _ hSw); go_simp <;> with_reducible rfl)))
              | refine held_pass 9 156 rfl rfl (by kernel_rfl) (by kernel_rfl) (by kernel_rfl) (fun _ _ _ h => h) (by assumption) (by rfl) ?_
            simp only [Act.put, List.setIfInBounds_toArray, List.set_cons_zero, List.set_cons_succ]
            first
              | (refine held_take 10 157 (v := ?_) rfl rfl (by kernel_rfl) (by kernel_rfl) (by kernel_rfl) (fun _ _ _ h => h) (by assumption) (by rfl) ?_ ?_; rotate_left; (focus (intro w hSw; (obtain ⟨z1, z2, z3⟩ := FX.out _ hSw); go_simp <;> with_reducible rfl)))
              | refine held_pass 10 157 rfl rfl (by kernel_rfl) (by kernel_rfl) (by kernel_rfl) (fun _ _ _ h => h) (by assumption) (by rfl) ?_
            simp only [Act.put, List.setIfInBounds_toArray, List.set_cons_zero, List.set_cons_succ]
            first
              | (refine held_take 11 158 (v := ?_) rfl rfl (by kernel_rfl) (by kernel_rfl) (by kernel_rfl) (fun _ _ _ h => h) (by assumption) (by rfl) ?_ ?_; rotate_left; (focus (intro w hSw; (obtain ⟨z1, z2, z3⟩ := FX.out _ hSw); go_simp <;> with_reducible rfl)))
              | refine held_pass 11 158 rfl rfl (by kernel_rfl) (by kernel_rfl) (by kernel_rfl) (fun _ _ _ h => h) (by assumption) (by rfl) ?_
            simp only [Act.put, List.setIfInBounds_toArray, List.set_cons_zero, List.set_cons_succ]
            first
              | (refine held_take 12 159 (v := ?_) rfl rfl (by kernel_rfl) (by kernel_rfl) (by kernel_rfl) (fun _ _ _ h => h) (by assumption) (by rfl) ?_ ?_; rotate_left; (focus (intro w hSw; (obtain ⟨z1, z2, z3⟩ := FX.out _ hSw); go_simp <;> with_reducible rfl)))
              | refine held_pass 12 159 rfl rfl (by kernel_rfl) (by kernel_rfl) (by kernel_rfl) (fun _ _ _ h => h) (by assumption) (by rfl) ?_
            simp only [Act.put, List.setIfInBounds_toArray, List.set_cons_zero, List.set_cons_succ]
            first
              | (refine held_take 13 160 (v := ?_) rfl rfl (by kernel_rfl) (by kernel_rfl) (by kernel_rfl) (fun _ _ _ h => h) (by assumption) (by rfl) ?_ ?_; rotate_left; (focus (intro w hSw; (obtain ⟨z1, z2, z3⟩ := FX.out _ hSw); go_simp <;> with_reducible rfl)))
              | refine held_pass 13 160 rfl rfl (by kernel_rfl) (by kernel_rfl) (by kernel_rfl) (fun _ _ _ h => h) (by assumption) (by rfl) ?_
            simp only [Act.put, List.setIfInBounds_toArray, List.set_cons_zero, List.set_cons_succ]
            first
              | (refine held_take 14 161 (v := ?_) rfl rfl (by kernel_rfl) (by kernel_rfl) (by kernel_rfl) (fun _ _ _ h => h) (by assumption) (by rfl) ?_ ?_; rotate_left; (focus (intro w hSw; (obtain ⟨z1, z2, z3⟩ := FX.out _ hSw); go_simp <;> with_reducible rfl)))
              | refine held_pass 14 161 rfl rfl (by kernel_rfl) (by kernel_rfl) (by kernel_rfl) (fun _ _ _ h => h) (by assumption) (by rfl) ?_
            simp only [Act.put, List.setIfInBounds_toArray, List.set_cons_zero, List.set_cons_succ]
            first
              | (refine held_take 15 162 (v := ?_) rfl rfl (by kernel_rfl) (by kernel_rfl) (by kernel_rfl) (fun _ _ _ h => h) (by assumption) (by rfl) ?_ ?_; rotate_left; (focus (intro w hSw; (obtain ⟨z1, z2, z3⟩ := FX.out _ hSw); go_simp <;> with_reducible rfl)))
              | refine held_pass 15 162 rfl rfl (by kernel_rfl) (by kernel_rfl) (by kernel_rfl) (fun _ _ _ h => h) (by assumption) (by rfl) ?_
            simp only [Act.put, List.setIfInBounds_toArray, List.set_cons_zero, List.set_cons_succ]
            first
              | (refine held_take 16 163 (v := ?_) rfl rfl (by kernel_rfl) (by kernel_rfl) (by kernel_rfl) (fun _ _ _ h => h) (by assumption) (by rfl) ?_ ?_; rotate_left; (focus (intro w hSw; (obtain ⟨z1, z2, z3⟩ := FX.out _ hSw); go_simp <;> with_reducible rfl)))
              | refine held_pass 16 163 rfl rfl (by kernel_rfl) (by kernel_rfl) (by kernel_rfl) (fun _ _ _ h => h) (by assumption) (by rfl) ?_
            simp only [Act.put, List.setIfInBounds_toArray, List.set_cons_zero, List.set_cons_succ]
            first
              | (refine held_take 17 164 (v := ?_) rfl rfl (by kernel_rfl) (by kernel_rfl) (by kernel_rfl) (fun _ _ _ h => h) (by assumption) (by rfl) ?_ ?_; rotate_left; (focus (intro w hSw; (obtain ⟨z1, z2, z3⟩ := FX.out _ hSw); go_simp <;> with_reducible rfl)))
              | refine held_pass 17 164 rfl rfl (by kernel_rfl) (by kernel_rfl) (by kernel_rfl) (fun _ _ _ h => h) (by assumption) (by rfl) ?_
            simp only [Act.put, List.setIfInBounds_toArray, List.set_cons_zero, List.set_cons_succ]
            first
              | (refine held_take 18 165 (v := ?_) rfl rfl (by kernel_rfl) (by kernel_rfl) (by kernel_rfl) (fun _ _ _ h => h) (by assumption) (by rfl) ?_ ?_; rotate_left; (focus (intro w hSw; (obtain ⟨z1, z2, z3⟩ := FX.out _ hSw); go_simp <;> with_reducible rfl)))
              | refine held_pass 18 165 rfl rfl (by kernel_rfl) (by kernel_rfl) (by kernel_rfl) (fun _ _ _ h => h) (by assumption) (by rfl) ?_
            simp only [Act.put, List.setIfInBounds_toArray, List.set_cons_zero, List.set_cons_succ]
            first
              | (refine held_take 19 166 (v := ?_) rfl rfl (by kernel_rfl) (by kernel_rfl) (by kernel_rfl) (fun _ _ _ h => h) (by assumption) (by rfl) ?_ ?_; rotate_left; (focus (intro w hSw; (obtain ⟨z1, z2, z3⟩ := FX.out _ hSw); go_simp <;> with_reducible rfl)))
              | refine held_pass 19 166 rfl rfl (by kernel_rfl) (by kernel_rfl) (by kernel_rfl) (fun _ _ _ h => h) (by assumption) (by rfl) ?_
            simp only [Act.put, List.setIfInBounds_toArray, List.set_cons_zero, List.set_cons_succ]
            first
              | (refine held_take 20 167 (v := ?_) rfl rfl (by kernel_rfl) (by kernel_rfl) (by kernel_rfl) (fun _ _ _ h => h) (by assumption) (by rfl) ?_ ?_; rotate_left; (focus (intro w hSw; (obtain ⟨z1, z2, z3⟩ := FX.out _ hSw); go_simp <;> with_reducible rfl)))
              | refine held_pass 20 167 rfl rfl (by kernel_rfl) (by kernel_rfl) (by kernel_rfl) (fun _ _ _ h => h) (by assumption) (by rfl) ?_
            simp only [Act.put, List.setIfInBounds_toArray, List.set_cons_zero, List.set_cons_succ]
            first
              | (refine held_take 21 168 (v := ?_) rfl rfl (by kernel_rfl) (by kernel_rfl) (by kernel_rfl) (fun _ _ _ h => h) (by assumption) (by rfl) ?_ ?_; rotate_left; (focus (intro w hSw; (obtain ⟨z1, z2, z3⟩ := FX.out _ hSw); go_simp <;> with_reducible rfl)))
              | refine held_pass 21 168 rfl rfl (by kernel_rfl) (by kernel_rfl) (by kernel_rfl) (fun _ _ _ h => h) (by assumption) (by rfl) ?_
            simp only [Act.put, List.setIfInBounds_toArray, List.set_cons_zero, List.set_cons_succ]
            refine held_call 22 169 rfl rfl (by kernel_rfl) (by rfl) (fun K hK => ?_)
            simp only [Go.wp_at_succ, Go.wp_at_zero]
            go_simp
            go_at_call 15
            (with_reducible refine (wput_no _ _ _ _ _ (.inl (by decide))).mono ?_)
            rintro e u2 ⟨rfl, rfl⟩
            first | (with_reducible refine hK.out _ _ ?_ (fun hHeld => ?_)) | (go_wp2_with fail; refine hK.out _ _ ?_ (fun hHeld => ?_))
            · exact U1
            clear hK K
            try simp only [Act.put, List.setIfInBounds_toArray, List.set_cons_zero, List.set_cons_succ]
            first
              | (refine held_take 23 170 (v := ?_) rfl rfl (by kernel_rfl) (by kernel_rfl) (by kernel_rfl) (fun _ _ _ h => h) (by assumption) (by rfl) ?_ ?_; rotate_left; (focus (intro w hSw; (obtain ⟨z1, z2, z3⟩ := FX.out _ hSw); go_simp <;> with_reducible rfl)))
              | refine held_pass 23 170 rfl rfl (by kernel_rfl) (by kernel_rfl) (by kernel_rfl) (fun _ _ _ h => h) (by assumption) (by rfl) ?_
            simp only [Act.put, List.setIfInBounds_toArray, List.set_cons_zero, List.set_cons_succ]
            first
              | (refine held_take 24 171 (v := ?_) rfl rfl (by kernel_rfl) (by kernel_rfl) (by kernel_rfl) (fun _ _ _ h => h) (by assumption) (by rfl) ?_ ?_; rotate_left; (focus (intro w hSw; (obtain ⟨z1, z2, z3⟩ := FX.out _ hSw); go_simp <;> with_reducible rfl)))
              | refine held_pass 24 171 rfl rfl (by kernel_rfl) (by kernel_rfl) (by kernel_rfl) (fun _ _ _ h => h) (by assumption) (by rfl) ?_
            simp only [Act.put, List.setIfInBounds_toArray, List.set_cons_zero, List.set_cons_succ]
            first
              | (refine held_take 25 8 (v := ?_) rfl rfl (by kernel_rfl) (by kernel_rfl) (by kernel_rfl) (fun _ _ _ h => h) (by assumption) (by rfl) ?_ ?_; rotate_left; (focus (intro w hSw; (obtain ⟨z1, z2, z3⟩ := FX.out _ hSw); go_simp <;> with_reducible rfl)))
              | refine held_pass 25 8 rfl rfl (by kernel_rfl) (by kernel_rfl) (by kernel_rfl) (fun _ _ _ h => h) (by assumption) (by rfl) ?_
            simp only [Act.put, List.setIfInBounds_toArray, List.set_cons_zero, List.set_cons_succ]
            refine wpAnyH_done (by kernel_rfl) ?_ _
            go_wp2
            go_returns
            exact ⟨rfl, B11.out.trans (U1.mono B11.out.size)⟩

set_option maxRecDepth 100000 in
theorem lifted (os : Os) (started : os.Started) (H : Type) (enc : TypeId × Value → H) :
    ReturnsInHanded {} Try.checked os 5 .any (Rows.walOpensSpec.pre6 enc Try.prog Try.f5 Rows.walOpensRow.domain false) (Rows.walOpensSpec.post enc Try.prog Try.f5 false true false false) := by
  refine returnsInHanded_of_change (C := Try.checked) own started (by kernel_rfl) Try.func5
    (ChangeSpec.witness6 (enc := enc) (C := Try.checked) false ⟨#[], #[.slice none 0 0, .int .i64 0, .int .i64 0, .slice none 0 0], []⟩ 8 (by kernel_rfl) (by kernel_rfl) (by kernel_rfl) (by kernel_rfl)) ?_
  intro W base args ds gs before hval0 hW hcnd _
  have hval : ∀ (j : Nat) t v, Try.f5.params[j]? = some t → args[j]? = some v → Value.okWide Try.prog W .any base t v := hval0
  have hW' := hW
  obtain ⟨p, q, hA0, hV, rfl, hfz, hnd⟩ := hW
  have hA : DataW.TrodAll enc Try.prog W 0 (fun _ => true) true Try.f5.params.toList args.toList ds p := hA0
  rw [Try.params5] at hA hval
  obtain ⟨v0, vs0, d0, ds0, p0, q0, hargs, rfl, rfl, h0, r0⟩ := trodAll_cons hA
  obtain ⟨v1, vs1, d1, ds1, p1, q1, rfl, rfl, rfl, h1, r1⟩ := trodAll_cons r0
  obtain ⟨v2, vs2, d2, ds2, p2, q2, rfl, rfl, rfl, h2, r2⟩ := trodAll_cons r1
  obtain ⟨v3, vs3, d3, ds3, p3, q3, rfl, rfl, rfl, h3, r3⟩ := trodAll_cons r2
  obtain ⟨rfl, rfl, rfl⟩ := trodAll_nil r3
  obtain rfl : args = #[v0, v1, v2, v3] := by cases args; simp_all
  obtain ⟨rfl, rfl⟩ := trodVars_none hV
  obtain ⟨a0, len0, cap0, rfl⟩ := okWide_slice Try.underlying27 (hval 0 27 v0 rfl rfl)
  have k0 := h0
  have lt0 : ∀ x ∈ p0, x.block < W.heap.size := by obtain ⟨m, hm⟩ := k0; exact DataW.trod_lt m _ _ _ hm
  obtain ⟨l0, w0⟩ := bytess_open h0
  obtain ⟨a1, rfl, rfl, rfl, w1⟩ := open_int Try.underlying3 (hval 1 3 v1 rfl rfl) h1
  obtain ⟨a2, rfl, rfl, rfl, w2⟩ := open_int Try.underlying3 (hval 2 3 v2 rfl rfl) h2
  obtain ⟨a3, len3, cap3, rfl⟩ := okWide_slice Try.underlying22 (hval 3 22 v3 rfl rfl)
  have k3 := h3
  have lt3 : ∀ x ∈ p3, x.block < W.heap.size := by obtain ⟨m, hm⟩ := k3; exact DataW.trod_lt m _ _ _ hm
  obtain ⟨l3, w3⟩ : ∃ l, Byt W W.heap.size (.slice a3 len3 cap3) l := by
    obtain ⟨fuel, hf⟩ := h3
    rcases open_ints Try.underlying22 Try.underlying5 (by kernel_rfl) hf with ⟨hcs, _⟩ | ⟨x, l, c, zs, hcs, _, hl, hm, hz, _, hcell, hwz⟩
    · simp [Value.cells] at hcs
      obtain ⟨rfl, rfl, rfl⟩ := hcs
      exact ⟨[], Byt.none _ _⟩
    · simp [Value.cells] at hcs
      obtain ⟨rfl, rfl, rfl⟩ := hcs
      obtain ⟨l, _, hb⟩ := byt_row hl hm (by simpa using hz) hcell hwz
      exact ⟨l, hb⟩
  clear hA0 hval0
  refine (walk (.slice a0 len0 cap0) l0 a1 a2 (.slice a3 len3 cap3) l3 W w0 w1 w2 w3).mono fun e W' ⟨he, bel⟩ => ?_
  subst he
  exact ⟨_, rfl, _, _, _, [], _, [], hW', trodAll_mk1 (shut_bool Try.underlying4 _), (trodAll_cons_mk (Below.trod laidOut (by kernel_rfl) (of_decide_eq_true (by kernel_rfl)) k0 bel lt0) (trodAll_cons_mk (shut_int Try.underlying3 w1) (trodAll_cons_mk (shut_int Try.underlying3 w2) (trodAll_cons_mk (Below.trod laidOut (by kernel_rfl) (of_decide_eq_true (by kernel_rfl)) k3 bel lt3) trodAll_mk0)))), rfl, bel.frame _, fun h => by cases h⟩

theorem over : Rows.walOpensRow.holds Try.pinned (OpenSpec.ofChange Rows.walOpensSpec) :=
  OpenClaim.holds_of_wide 5 Try.f5 rfl rfl rfl rfl rfl rfl rfl ⟨rfl, rfl, rfl, rfl, rfl⟩ rfl rfl rfl rfl rfl (by kernel_rfl) Try.func5 (by kernel_rfl)
    (of_decide_eq_true (by kernel_rfl)) (by unfold Func.isWrapper; first | (rw [if_pos (by decide +kernel)]; kernel_rfl) | (rw [if_neg (by decide +kernel)]; exact ⟨rfl, rfl⟩))
    (fun os started H enc _ => lifted os started H enc)
end Go.Proofs.Ytpmigpgkicacpaa.WalOpens

namespace Go.Proofs.Ytpmigpgkicacpaa
theorem walOpens_holds : Rows.WalOpensSaid := WalOpens.over
#print axioms walOpens_holds
end Go.Proofs.Ytpmigpgkicacpaa
