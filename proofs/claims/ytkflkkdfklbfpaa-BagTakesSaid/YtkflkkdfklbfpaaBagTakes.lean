/-
  PROVED: casebooklaw9.BagTakes answers true and leaves its arguments as they were, for any ints, any bools and any order: the row's own reading and nothing else is assumed.
-/
import Derived.Test.YtkflkkdfklbfpaaBagArgs
import Derived.Deep.OwnRows
import Derived.Laws.OwnMore
namespace Go.Proofs.Ytkflkkdfklbfpaa.BagTakes
open Go.ChangeShapes Go.WideShapes Go.ChangeAt Go.RowKit

/-- The message of the i-th. -/
def mg (tt : Nat → Int) (i : Nat) : MsgV := ⟨i, tt i, ⟨#[UInt8.ofNat i]⟩⟩
/-- How often each is there. -/
def cnt (len : Nat) (I : List Nat) : Array Value := ((List.range len).map fun j => Value.int .i64 (I.count j : Nat)).toArray
theorem cnt_size (len : Nat) (I : List Nat) : (cnt len I).size = len := by simp [cnt]
theorem cnt_get (len : Nat) (I : List Nat) {j : Nat} (h : j < len) : (cnt len I)[j]? = some (.int .i64 (I.count j : Nat)) := by simp [cnt, h]
theorem cnt_nil (len : Nat) : cnt len [] = madeCells #[Value.int .i64 0] len := by
  apply Array.ext'
  rw [toList_madeCells_one]
  apply List.ext_getElem?
  intro i
  simp [cnt, List.getElem?_replicate]
  by_cases h : i < len
  · simp [h]
  · simp [h]
/-- One of them turns. -/
theorem cnt_set {len : Nat} {I I' : List Nat} {j : Nat} (hj : j < len) (ho : ∀ i, i ≠ j → I'.count i = I.count i) : (cnt len I).setIfInBounds j (.int .i64 (I'.count j : Nat)) = cnt len I' := by
  apply Array.ext'
  apply List.ext_getElem?
  intro i
  simp only [cnt, List.setIfInBounds_toArray, List.getElem?_set, List.length_map, List.length_range, List.getElem?_map]
  by_cases h : j = i
  · subst h; simp [hj]
  · rw [if_neg h]
    by_cases hi : i < len
    · simp [List.getElem?_range hi, ho i (fun e => h e.symm)]
    · simp [show len ≤ i by omega]

/-- The bag holds the messages of I, and the row of numbers at cb tells how often each is there. -/
structure St (n : Nat) (w0 : World) (tt : Nat → Int) (len cb : Nat) (I : List Nat) (w : World) : Prop where
  bag : BgO n w0 n (I.map (mg tt)) w
  row : w.heap[cb]? = some (.cells (cnt len I) 3 (0, 0))
  low : n ≤ cb
section
variable {n : Nat} {w0 w w' : World} {tt : Nat → Int} {len cb : Nat} {I I' : List Nat}
theorem St.on (h : St n w0 tt len cb I w) (hb : Below w.heap.size w w') : St n w0 tt len cb I w' := ⟨h.bag.on hb, (hb.block cb (lt_of_block h.row)).trans h.row, h.low⟩
/-- The bag turned, and the number then. -/
theorem St.set {I0 : List Nat} (hb : BgO n w0 n (I'.map (mg tt)) w) (hr : w.heap[cb]? = some (.cells (cnt len I0) 3 (0, 0))) (hl : n ≤ cb) {j : Nat} (hj : j < len) (ho : ∀ i, i ≠ j → I'.count i = I0.count i) :
    St n w0 tt len cb I' (w.setCell ⟨cb, j, none⟩ (.int .i64 (I'.count j : Nat))) := by
  refine ⟨hb.other hr (by decide) (by decide) hl (Only.set cb j w _), ?_, hl⟩
  rw [heap_setCell_same _ _ _ _ _ _ hr, cnt_set hj ho]
theorem St.cell (h : w.heap[cb]? = some (.cells (cnt len I) 3 (0, 0))) {j : Nat} (hj : j < len) : w.cell? ⟨cb, j, none⟩ = some (.int .i64 (I.count j : Nat)) ∧ w.frozen? ⟨cb, j, none⟩ = false := by
  refine ⟨?_, by simp [World.frozen?, h]⟩
  rw [cell_of_row _ _ _ _ _ _ h]
  exact cnt_get len I hj
end

set_option maxRecDepth 100000 in
set_option maxHeartbeats 8000000 in
theorem main (l : List Int) (tw : List Bool) (od : List Int) (len blen olen : Nat) (a ba oa : Option Addr) (c bc oc : Nat) (w : World) (hI : Ints w w.heap.size (.slice a len c) l) (hB : Bools w w.heap.size (.slice ba blen bc) tw) (hO : Ints w w.heap.size (.slice oa olen oc) od) :
    Calls Try.prog 6 #[.slice a len c, .slice ba blen bc, .slice oa olen oc] w fun e w' => e = .returned (.bool true) ∧ Below w.heap.size w w' := by
  have HN := Lib.hid (g_new w w w.heap.size (Below.refl _ _) (Nat.le_refl _))
  have HT := Lib.hid (fun u => told9_any u)
  obtain ⟨n, hn⟩ : ∃ n, n = w.heap.size := ⟨_, rfl⟩
  rw [← hn] at HN hI hB hO ⊢
  obtain ⟨_, _, hv, hcap, hmax, _, hcells⟩ := hI
  cases hv
  obtain ⟨_, _, hv, hbmax, hbcells⟩ := hB
  cases hv
  obtain ⟨_, _, hv, hocap, homax, _, hocells⟩ := hO
  cases hv
  obtain ⟨len, hl⟩ : ∃ len, len = l.length := ⟨_, rfl⟩
  obtain ⟨blen, hbl⟩ : ∃ len, len = tw.length := ⟨_, rfl⟩
  obtain ⟨olen, hol⟩ : ∃ len, len = od.length := ⟨_, rfl⟩
  rw [← hl] at hcap ⊢
  rw [← hbl] at hbmax ⊢
  rw [← hol] at hocap ⊢
  have HL := Lib.hid hl
  have HC := Lib.hid hcells
  have HBL := Lib.hid hbl
  have HBC := Lib.hid hbcells
  have HOL := Lib.hid hol
  have HOC := Lib.hid hocells
  clear hcells hl hbl hol hbcells hocells hn
  go_enter Try.func6, Try.ntmps6
  go_wp2_with fail
  refine HN.out.mono ?_
  rintro e w1 ⟨rfl, hb, _⟩
  have B1 := Lib.hid hb
  clear hb HN
  by_cases h30 : 30 < len
  · go_wp2_with fail
    refine (HT.out _).mono ?_
    rintro e w2 ⟨rfl, hb⟩
    go_wp2
    go_returns
    exact ⟨rfl, B1.out.bel.trans (hb.mono B1.out.size)⟩
  · have hmk := fun u : World => run_make_row' (P := Try.prog) 22 3 (.int .i64 0) 8 Try.underlying22 ginfo_int rfl .i64 .i64 len (by omega) (by omega) u
    obtain ⟨tt, htt⟩ : ∃ tt : Nat → Int, tt = fun j => l.getD j 0 := ⟨_, rfl⟩
    have HTT := Lib.hid htt
    clear htt
    have S0 : Hid (St n w tt len w1.heap.size [] (w1.alloc (.cells (madeCells #[Value.int .i64 0] len) 3))) := ⟨B1.out.alloc _, by rw [cnt_nil]; exact heap_alloc_new w1 _, B1.out.size⟩
    go_wp2_with fail
    generalize w1.heap.size = cb at S0 ⊢
    clear hmk
    go_loopw [9, 10] (fun s9 s10 wr => ∃ (k all : Nat) (I : List Nat), s9 = .int .i64 all ∧ s10 = .int .i64 k ∧ k ≤ len ∧ all ≤ 2 * k ∧ Hid (I.length = all) ∧ Hid (∀ i ∈ I, i < k) ∧ Hid (St n w tt len cb I wr)) (fun _ s10 _ => len - (intOf s10).toNat)
    case atStart => exact ⟨0, 0, [], rfl, rfl, Nat.zero_le _, Nat.le_refl _, (show _ = _ from rfl), (fun i hi => absurd hi (by simp)), S0⟩
    case round =>
      obtain ⟨k, all, I, rfl, rfl, hk, hall, HI, HLT, HS⟩ := hrel
      by_cases hlt : k < len
      · obtain ⟨b, off, rfl, hbw, hc⟩ := HC.out (List.length_pos_iff.1 (by have := HL.out; omega))
        have q0 := (HS.out.bag.bel.cell (p := ⟨b, off + k, none⟩) hbw).trans (hc k (by have := HL.out; omega))
        have ht : l.getD k 0 = tt k := by rw [HTT.out]
        rw [ht] at q0
        have k1 : (k : Int) < (len : Int) := by omega
        have k0 : (0 : Int) ≤ (k : Int) := by omega
        have k8 : IntKind.u8.wrap (k : Int) = (k : Int) := by rw [IntKind.wrap_u8]; omega
        have hno : I.count k = 0 := List.count_eq_zero.2 fun h => by have := HLT.out k h; omega
        have hlen2 : (I.map (mg tt)).length = all := by rw [List.length_map]; exact HI.out
        have HA : Hid (∀ u, St n w tt len cb I u → Calls Try.prog 9 #[.pointer (some ⟨n, 0, none⟩), .int .i64 k, .int .i64 (tt k), .slice (some ⟨u.heap.size, 0, none⟩) 1 1] (u.alloc (.cells #[.int .u8 k] 5)) fun e w' => e = .returned (.int .i64 all) ∧ Hid (BgO n w n ((I ++ [k]).map (mg tt)) w') ∧ Hid (w'.heap[cb]? = some (.cells (cnt len I) 3 (0, 0)))) := fun u hu => by
          have hu2 := hu.on ((Below.refl _ _).alloc (Nat.le_refl _) (.cells #[.int .u8 k] 5))
          refine (g_add hu2.bag k (tt k) (byt_one u k (by omega)) (by simp) (by omega)).mono ?_
          rintro e w' ⟨rfl, h1, h2⟩
          rw [hlen2]
          exact ⟨rfl, by rw [List.map_append]; exact h1, h2 _ _ _ (by decide) (by decide) hu2.row⟩
        have HD : Hid (∀ u, St n w tt len cb (I ++ [k]) u → Calls Try.prog 15 #[.pointer (some ⟨n, 0, none⟩), .int .i64 all] u fun e w' => e = .returned (.int .i64 0) ∧ Hid (BgO n w n ((I ++ [k] ++ [k]).map (mg tt)) w') ∧ Hid (w'.heap[cb]? = some (.cells (cnt len (I ++ [k])) 3 (0, 0)))) := fun u hu => by
          have hl3 : ((I ++ [k]).map (mg tt)).length = all + 1 := by rw [List.length_map, List.length_append, HI.out]; rfl
          refine (g_double hu.bag all (by omega) (by omega)).mono ?_
          rintro e w' ⟨rfl, h1, h2⟩
          have hm : mAt ((I ++ [k]).map (mg tt)) all = mg tt k := by unfold mAt; rw [List.getD_eq_getElem?_getD]; simp [← HI.out]
          rw [hm] at h1
          exact ⟨rfl, by rw [List.map_append]; exact h1, h2 _ _ _ (by decide) (by decide) hu.row⟩
        -- the number that comes, as the row has it
        have C1 : Hid ((((I ++ [k]).count k : Nat) : Int) = 1) := Lib.hid (by rw [List.count_append, hno]; simp)
        have C2 : Hid ((((I ++ [k] ++ [k]).count k : Nat) : Int) = 2) := Lib.hid (by rw [List.count_append, List.count_append, hno]; simp)
        have hcell : ∀ (u : World) (J : List Nat), u.heap[cb]? = some (.cells (cnt len J) 3 (0, 0)) → u.cell? ⟨cb, k, none⟩ = some (.int .i64 (J.count k : Nat)) ∧ u.frozen? ⟨cb, k, none⟩ = false := fun u J hu => St.cell hu hlt
        have HCE := Lib.hid hcell
        clear hc hno hlen2 ht hcell
        generalize hy : tt k = y at q0 HA
        clear hy
        have HSET : Hid (∀ u, BgO n w n ((I ++ [k]).map (mg tt)) u → u.heap[cb]? = some (.cells (cnt len I) 3 (0, 0)) → St n w tt len cb (I ++ [k]) (u.setCell ⟨cb, k, none⟩ (.int .i64 1))) := fun u h1 h2 => by
          have := St.set h1 h2 HS.out.low hlt (fun i hi => by rw [List.count_append]; simp [Ne.symm hi])
          rwa [C1.out] at this
        have HSET2 : Hid (∀ u, BgO n w n ((I ++ [k] ++ [k]).map (mg tt)) u → u.heap[cb]? = some (.cells (cnt len (I ++ [k])) 3 (0, 0)) → St n w tt len cb (I ++ [k] ++ [k]) (u.setCell ⟨cb, k, none⟩ (.int .i64 2))) := fun u h1 h2 => by
          have := St.set h1 h2 HS.out.low hlt (fun i hi => by rw [List.count_append]; simp [Ne.symm hi])
          rwa [C2.out] at this
        have HLT1 : Hid (∀ i ∈ I ++ [k], i < k + 1) := fun i hi => by
          rcases List.mem_append.1 hi with h | h
          · have := HLT.out i h; omega
          · rw [List.mem_singleton.1 h]; omega
        have HLT2 : Hid (∀ i ∈ I ++ [k] ++ [k], i < k + 1) := fun i hi => by
          rcases List.mem_append.1 hi with h | h
          · exact HLT1.out i h
          · rw [List.mem_singleton.1 h]; omega
        by_cases htw : k < blen
        · have k2 : (k : Int) < (blen : Int) := by omega
          obtain ⟨tb, td, rfl, htbw, htc⟩ := HBC.out (List.length_pos_iff.1 (by have := HBL.out; omega))
          have tq := htc k (by have := HBL.out; omega)
          clear htc
          cases hv : tw.getD k false with
          | true =>
            rw [hv] at tq
            go_wp2_with fail
            refine (HA.out _ HS.out).mono ?_
            rintro e w2 ⟨rfl, B2, R2⟩
            obtain ⟨c2, z2⟩ := HCE.out w2 I R2.out
            have S3 : Hid (St n w tt len cb (I ++ [k]) (w2.setCell ⟨cb, k, none⟩ (.int .i64 1))) := HSET.out w2 B2.out R2.out
            have tq := (S3.out.bag.bel.cell (p := ⟨tb, td + k, none⟩) htbw).trans tq
            go_wp2_with fail
            refine (HD.out _ S3.out).mono ?_
            rintro e w4 ⟨rfl, B4, R4⟩
            obtain ⟨c4, z4⟩ := HCE.out w4 _ R4.out
            have S5 : Hid (St n w tt len cb (I ++ [k] ++ [k]) (w4.setCell ⟨cb, k, none⟩ (.int .i64 2))) := HSET2.out w4 B4.out R4.out
            clear c2 z2 tq
            go_wp2
            go_roundw
            case rel => exact ⟨k + 1, all + 2, I ++ [k] ++ [k], by go_num, by go_num, by omega, by omega, (show _ = _ by rw [List.length_append, List.length_append, HI.out]; rfl), HLT2.out, S5.out⟩
            case measure => simp [intOf]; omega
          | false =>
            rw [hv] at tq
            go_wp2_with fail
            refine (HA.out _ HS.out).mono ?_
            rintro e w2 ⟨rfl, B2, R2⟩
            obtain ⟨c2, z2⟩ := HCE.out w2 I R2.out
            have S3 : Hid (St n w tt len cb (I ++ [k]) (w2.setCell ⟨cb, k, none⟩ (.int .i64 1))) := HSET.out w2 B2.out R2.out
            have tq := (S3.out.bag.bel.cell (p := ⟨tb, td + k, none⟩) htbw).trans tq
            go_wp2
            go_roundw
            case rel => exact ⟨k + 1, all + 1, I ++ [k], by go_num, by go_num, by omega, by omega, (show _ = _ by rw [List.length_append, HI.out]; rfl), HLT1.out, S3.out⟩
            case measure => simp [intOf]; omega
        · have k2 : (blen : Int) ≤ (k : Int) := by omega
          go_wp2_with fail
          refine (HA.out _ HS.out).mono ?_
          rintro e w2 ⟨rfl, B2, R2⟩
          obtain ⟨c2, z2⟩ := HCE.out w2 I R2.out
          have S3 : Hid (St n w tt len cb (I ++ [k]) (w2.setCell ⟨cb, k, none⟩ (.int .i64 1))) := HSET.out w2 B2.out R2.out
          go_wp2
          go_roundw
          case rel => exact ⟨k + 1, all + 1, I ++ [k], by go_num, by go_num, by omega, by omega, (show _ = _ by rw [List.length_append, HI.out]; rfl), HLT1.out, S3.out⟩
          case measure => simp [intOf]; omega
      · have hle : (len : Int) ≤ (k : Int) := by omega
        obtain rfl : k = len := by omega
        clear HBC HBL S0
        go_wp2_with fail
        have hall60 : all ≤ 60 := by omega
        go_loopw [9, 11] (fun s9 s11 wr => ∃ (i q : Nat) (J : List Nat), s9 = .int .i64 q ∧ s11 = .int .i64 i ∧ i + q = all ∧ Hid (J.length = q) ∧ Hid (∀ x ∈ J, x < k) ∧ Hid (St n w tt k cb J wr)) (fun s9 _ _ => (intOf s9).toNat)
        case atStart => exact ⟨0, all, I, rfl, rfl, Nat.zero_add _, HI, HLT, HS⟩
        case round =>
          clear HS HLT HI
          obtain ⟨i, q, J, rfl, rfl, hiq, HJ, HJL, HSS⟩ := hrel
          by_cases hq : 0 < q
          · have q0 : (0 : Int) < (q : Int) := by omega
            by_cases ho : i < olen
            · obtain ⟨ob, oo, rfl, hobw, hoc⟩ := HOC.out (List.length_pos_iff.1 (by have := HOL.out; omega))
              have t0 := (HSS.out.bag.bel.cell (p := ⟨ob, oo + i, none⟩) hobw).trans (hoc i (by have := HOL.out; omega))
              clear hoc
              have i1 : (i : Int) < (olen : Int) := by omega
              have u1 : IntKind.u64.wrap (q : Int) = (q : Int) := by rw [IntKind.wrap_u64]; omega
              have u2 : ((q : Int) == 0) = false := beq_eq_false_iff_ne.2 (by omega)
              obtain ⟨kk, hkq, hkk⟩ : ∃ kk : Nat, kk < q ∧ wrap64 ((IntKind.u64.wrap (od.getD i 0)).tmod (q : Int)) = (kk : Int) := by
                have h0 : 0 ≤ IntKind.u64.wrap (od.getD i 0) := by rw [IntKind.wrap_u64]; omega
                have h1 := Int.tmod_nonneg (q : Int) h0
                have h2 := Int.tmod_lt_of_pos (IntKind.u64.wrap (od.getD i 0)) q0
                refine ⟨((IntKind.u64.wrap (od.getD i 0)).tmod (q : Int)).toNat, by omega, ?_⟩
                rw [IntWalk.wrap64_in _ (by omega)]
                omega
              generalize od.getD i 0 = z at t0 hkk
              obtain ⟨j, hjJ, hjk⟩ : ∃ j, J[kk]? = some j ∧ j < k := by
                have h : kk < J.length := by have := HJ.out; omega
                exact ⟨J[kk], List.getElem?_eq_getElem h, HJL.out _ (List.getElem_mem h)⟩
              obtain ⟨J', hJ'⟩ : ∃ J', J' = J.take kk ++ J.drop (kk + 1) := ⟨_, rfl⟩
              have hsplit : J = J.take kk ++ j :: J.drop (kk + 1) := by
                obtain ⟨h, h2⟩ := List.getElem?_eq_some_iff.1 hjJ
                rw [← h2, List.getElem_cons_drop, List.take_append_drop]
              have hcj : J.count j = J'.count j + 1 := by rw [hJ']; conv => lhs; rw [hsplit]
                                                          rw [List.count_append, List.count_append, List.count_cons_self]; omega
              have hco : ∀ i, i ≠ j → J'.count i = J.count i := fun i hi => by
                rw [hJ']; conv => rhs; rw [hsplit]
                rw [List.count_append, List.count_append, List.count_cons_of_ne (Ne.symm hi)]
              have hlen' : J'.length + 1 = q := by have := HJ.out; rw [hJ', List.length_append, List.length_take, List.length_drop]; omega
              have hmm : mAt (J.map (mg tt)) kk = mg tt j := by unfold mAt; rw [List.getD_eq_getElem?_getD, List.getElem?_map, hjJ]; rfl
              have HJL' : Hid (∀ x ∈ J', x < k) := fun x hx => by
                rw [hJ'] at hx
                rcases List.mem_append.1 hx with h | h
                · exact HJL.out x (List.mem_of_mem_take h)
                · exact HJL.out x (List.mem_of_mem_drop h)
              have HTk : Hid (∀ z : Int, z = (kk : Int) → Calls Try.prog 13 #[.pointer (some ⟨n, 0, none⟩), .int .i64 z] wr fun e w' => (∃ b off c, e = .returned (.tuple #[.int .i64 j, .int .i64 (tt j), .slice (some ⟨b, off, none⟩) 1 c, .int .i64 0]) ∧ w'.cell? ⟨b, off, none⟩ = some (.int .u8 (j : Int))) ∧ Hid (BgO n w n (J'.map (mg tt)) w') ∧ Hid (w'.heap[cb]? = some (.cells (cnt k J) 3 (0, 0)))) := fun z hz => by
                subst hz
                refine (g_take HSS.out.bag kk (by rw [List.length_map, HJ.out]; omega) (by rw [List.length_map, HJ.out]; omega) (by rw [hmm]; exact (by decide : 1 ≤ maxLen))).mono ?_
                rintro e w' ⟨⟨a, c, rfl, hy⟩, h1, h2⟩
                rw [hmm] at hy ⊢
                refine ⟨?_, by rw [hJ', List.map_append, List.map_take, List.map_drop]; exact h1, h2 _ _ _ (by decide) (by decide) HSS.out.row⟩
                obtain ⟨ao, cap, hv, _, _, _, h4⟩ := hy
                obtain ⟨b, off, rfl, _, hc⟩ := h4 (by simp [mg])
                simp only [Value.slice.injEq] at hv
                obtain ⟨rfl, _, rfl⟩ := hv
                refine ⟨b, off, c, rfl, ?_⟩
                have := hc 0 (by simp [mg])
                rw [Nat.add_zero] at this
                rw [this]
                simp [mg]
                omega
              have HSJ : Hid (∀ u, BgO n w n (J'.map (mg tt)) u → u.heap[cb]? = some (.cells (cnt k J) 3 (0, 0)) → St n w tt k cb J' (u.setCell ⟨cb, j, none⟩ (.int .i64 ((J.count j : Int) - 1)))) := fun u h1 h2 => by
                have := St.set h1 h2 HSS.out.low hjk hco
                rwa [show ((J'.count j : Nat) : Int) = (J.count j : Int) - 1 by omega] at this
              have HLe : Hid (∀ u, St n w tt k cb J' u → Calls Try.prog 12 #[.pointer (some ⟨n, 0, none⟩)] u fun e w' => e = .returned (.int .i64 ((q : Int) - 1)) ∧ u = w') := fun u hu => by
                have := g_len hu.bag
                rwa [List.length_map, show ((J'.length : Nat) : Int) = (q : Int) - 1 by omega] at this
              have hcl : J.count j ≤ J.length := List.count_le_length
              have hJq := HJ.out
              have HJ2 : Hid (J'.length = q - 1) := Lib.hid (by omega)
              have HCC : Hid (∀ u : World, u.heap[cb]? = some (.cells (cnt k J) 3 (0, 0)) → u.cell? ⟨cb, j, none⟩ = some (.int .i64 (J.count j : Nat)) ∧ u.frozen? ⟨cb, j, none⟩ = false) := fun u hu => St.cell hu hjk
              obtain ⟨b0, o0, rfl, hbw, hc⟩ := HC.out (List.length_pos_iff.1 (by have := HL.out; omega))
              have hc0 := hc j (by have := HL.out; omega)
              rw [show l.getD j 0 = tt j by rw [HTT.out]] at hc0
              generalize hcc : J.count j = cj at HSJ HCC hcj hcl
              generalize hyy : tt j = y at hc0 HTk
              have c0 : ((cj : Int) == 0) = false := beq_eq_false_iff_ne.2 (by omega)
              have c1 : IntKind.i64.wrap ((cj : Int) - 1) = (cj : Int) - 1 := by rw [IntKind.wrap_i64]; omega
              have q1 : IntKind.i64.wrap ((q : Int) - 1) = (q : Int) - 1 := by rw [IntKind.wrap_i64]; omega
              have j1 : (j : Int) < (k : Int) := by omega
              have j2 : (0 : Int) ≤ (j : Int) := by omega
              have jw : IntKind.i64.wrap (j : Int) = (j : Int) := by rw [IntKind.wrap_i64]; omega
              clear hc hsplit hcj hco hlen' hmm hJ' hjJ hcl hJq hcc hyy
              go_wp2_with fail
              refine (HTk.out _ (by first | rfl | exact hkk | simp [hkk])).mono ?_
              rintro e w6 ⟨⟨b6, o6, c6, rfl, h6⟩, B6, R6⟩
              have hd0 := (B6.out.bel.cell (p := ⟨b0, o0 + j, none⟩) hbw).trans hc0
              obtain ⟨d6, z6⟩ := HCC.out w6 R6.out
              have S7 := Lib.hid (HSJ.out w6 B6.out R6.out)
              clear hc0 HTk HSJ HCC
              go_wp2_with fail
              refine (HLe.out _ S7.out).mono ?_
              rintro e w8 ⟨rfl, rfl⟩
              clear d6 z6 h6 hd0
              go_wp2
              go_roundw
              case rel => exact ⟨i + 1, q - 1, J', congrArg (Value.int .i64) (by omega), by go_num, by omega, HJ2, HJL', S7⟩
              case measure => simp [intOf]; omega
            · have i1 : (olen : Int) ≤ (i : Int) := by omega
              obtain ⟨kk, hkq, hkk⟩ : ∃ kk : Nat, kk < q ∧ kk = 0 := ⟨0, hq, rfl⟩
              obtain ⟨j, hjJ, hjk⟩ : ∃ j, J[kk]? = some j ∧ j < k := by
                have h : kk < J.length := by have := HJ.out; omega
                exact ⟨J[kk], List.getElem?_eq_getElem h, HJL.out _ (List.getElem_mem h)⟩
              obtain ⟨J', hJ'⟩ : ∃ J', J' = J.take kk ++ J.drop (kk + 1) := ⟨_, rfl⟩
              have hsplit : J = J.take kk ++ j :: J.drop (kk + 1) := by
                obtain ⟨h, h2⟩ := List.getElem?_eq_some_iff.1 hjJ
                rw [← h2, List.getElem_cons_drop, List.take_append_drop]
              have hcj : J.count j = J'.count j + 1 := by rw [hJ']; conv => lhs; rw [hsplit]
                                                          rw [List.count_append, List.count_append, List.count_cons_self]; omega
              have hco : ∀ i, i ≠ j → J'.count i = J.count i := fun i hi => by
                rw [hJ']; conv => rhs; rw [hsplit]
                rw [List.count_append, List.count_append, List.count_cons_of_ne (Ne.symm hi)]
              have hlen' : J'.length + 1 = q := by have := HJ.out; rw [hJ', List.length_append, List.length_take, List.length_drop]; omega
              have hmm : mAt (J.map (mg tt)) kk = mg tt j := by unfold mAt; rw [List.getD_eq_getElem?_getD, List.getElem?_map, hjJ]; rfl
              have HJL' : Hid (∀ x ∈ J', x < k) := fun x hx => by
                rw [hJ'] at hx
                rcases List.mem_append.1 hx with h | h
                · exact HJL.out x (List.mem_of_mem_take h)
                · exact HJL.out x (List.mem_of_mem_drop h)
              have HTk : Hid (∀ z : Int, z = (kk : Int) → Calls Try.prog 13 #[.pointer (some ⟨n, 0, none⟩), .int .i64 z] wr fun e w' => (∃ b off c, e = .returned (.tuple #[.int .i64 j, .int .i64 (tt j), .slice (some ⟨b, off, none⟩) 1 c, .int .i64 0]) ∧ w'.cell? ⟨b, off, none⟩ = some (.int .u8 (j : Int))) ∧ Hid (BgO n w n (J'.map (mg tt)) w') ∧ Hid (w'.heap[cb]? = some (.cells (cnt k J) 3 (0, 0)))) := fun z hz => by
                subst hz
                refine (g_take HSS.out.bag kk (by rw [List.length_map, HJ.out]; omega) (by rw [List.length_map, HJ.out]; omega) (by rw [hmm]; exact (by decide : 1 ≤ maxLen))).mono ?_
                rintro e w' ⟨⟨a, c, rfl, hy⟩, h1, h2⟩
                rw [hmm] at hy ⊢
                refine ⟨?_, by rw [hJ', List.map_append, List.map_take, List.map_drop]; exact h1, h2 _ _ _ (by decide) (by decide) HSS.out.row⟩
                obtain ⟨ao, cap, hv, _, _, _, h4⟩ := hy
                obtain ⟨b, off, rfl, _, hc⟩ := h4 (by simp [mg])
                simp only [Value.slice.injEq] at hv
                obtain ⟨rfl, _, rfl⟩ := hv
                refine ⟨b, off, c, rfl, ?_⟩
                have := hc 0 (by simp [mg])
                rw [Nat.add_zero] at this
                rw [this]
                simp [mg]
                omega
              have HSJ : Hid (∀ u, BgO n w n (J'.map (mg tt)) u → u.heap[cb]? = some (.cells (cnt k J) 3 (0, 0)) → St n w tt k cb J' (u.setCell ⟨cb, j, none⟩ (.int .i64 ((J.count j : Int) - 1)))) := fun u h1 h2 => by
                have := St.set h1 h2 HSS.out.low hjk hco
                rwa [show ((J'.count j : Nat) : Int) = (J.count j : Int) - 1 by omega] at this
              have HLe : Hid (∀ u, St n w tt k cb J' u → Calls Try.prog 12 #[.pointer (some ⟨n, 0, none⟩)] u fun e w' => e = .returned (.int .i64 ((q : Int) - 1)) ∧ u = w') := fun u hu => by
                have := g_len hu.bag
                rwa [List.length_map, show ((J'.length : Nat) : Int) = (q : Int) - 1 by omega] at this
              have hcl : J.count j ≤ J.length := List.count_le_length
              have hJq := HJ.out
              have HJ2 : Hid (J'.length = q - 1) := Lib.hid (by omega)
              have HCC : Hid (∀ u : World, u.heap[cb]? = some (.cells (cnt k J) 3 (0, 0)) → u.cell? ⟨cb, j, none⟩ = some (.int .i64 (J.count j : Nat)) ∧ u.frozen? ⟨cb, j, none⟩ = false) := fun u hu => St.cell hu hjk
              obtain ⟨b0, o0, rfl, hbw, hc⟩ := HC.out (List.length_pos_iff.1 (by have := HL.out; omega))
              have hc0 := hc j (by have := HL.out; omega)
              rw [show l.getD j 0 = tt j by rw [HTT.out]] at hc0
              generalize hcc : J.count j = cj at HSJ HCC hcj hcl
              generalize hyy : tt j = y at hc0 HTk
              have c0 : ((cj : Int) == 0) = false := beq_eq_false_iff_ne.2 (by omega)
              have c1 : IntKind.i64.wrap ((cj : Int) - 1) = (cj : Int) - 1 := by rw [IntKind.wrap_i64]; omega
              have q1 : IntKind.i64.wrap ((q : Int) - 1) = (q : Int) - 1 := by rw [IntKind.wrap_i64]; omega
              have j1 : (j : Int) < (k : Int) := by omega
              have j2 : (0 : Int) ≤ (j : Int) := by omega
              have jw : IntKind.i64.wrap (j : Int) = (j : Int) := by rw [IntKind.wrap_i64]; omega
              clear hc hsplit hcj hco hlen' hmm hJ' hjJ hcl hJq hcc hyy
              have HKK := Lib.hid hkk
              clear hkk
              go_wp2_with fail
              refine (HTk.out _ (by rw [HKK.out]; rfl)).mono ?_
              rintro e w6 ⟨⟨b6, o6, c6, rfl, h6⟩, B6, R6⟩
              have hd0 := (B6.out.bel.cell (p := ⟨b0, o0 + j, none⟩) hbw).trans hc0
              obtain ⟨d6, z6⟩ := HCC.out w6 R6.out
              have S7 := Lib.hid (HSJ.out w6 B6.out R6.out)
              clear hc0 HTk HSJ HCC
              go_wp2_with fail
              refine (HLe.out _ S7.out).mono ?_
              rintro e w8 ⟨rfl, rfl⟩
              clear d6 z6 h6 hd0
              go_wp2
              go_roundw
              case rel => exact ⟨i + 1, q - 1, J', congrArg (Value.int .i64) (by omega), by go_num, by omega, HJ2, HJL', S7⟩
              case measure => simp [intOf]; omega
          · have hq0 : (q : Int) ≤ 0 := by omega
            go_wp2_with fail
            refine (HT.out _).mono ?_
            rintro e w7 ⟨rfl, hb7⟩
            have B7 := Lib.hid (HSS.out.bag.on hb7)
            clear hb7
            go_wp2
            go_returns
            exact ⟨rfl, B7.out.bel⟩

theorem walk (v : Value) (l : List Int) (bv : Value) (tw : List Bool) (ov : Value) (od : List Int) (w : World) (hI : Ints w w.heap.size v l) (hB : Bools w w.heap.size bv tw) (hO : Ints w w.heap.size ov od) :
    Calls Try.prog 6 #[v, bv, ov] w fun e w' => e = .returned (.bool true) ∧ Below w.heap.size w w' := by
  obtain ⟨a, c, rfl, _⟩ := id hI
  obtain ⟨ba, bc, rfl, _⟩ := id hB
  obtain ⟨oa, oc, rfl, _⟩ := id hO
  exact main l tw od l.length tw.length od.length a ba oa c bc oc w hI hB hO

set_option maxRecDepth 100000 in
theorem lifted (os : Os) (started : os.Started) (H : Type) (enc : TypeId × Value → H) :
    ReturnsInHanded {} Try.checked os 6 .any (Rows.bagTakesSpec.pre6 enc Try.prog Try.f6 Rows.bagTakesRow.domain false) (Rows.bagTakesSpec.post enc Try.prog Try.f6 false true false false) := by
  refine returnsInHanded_of_change (C := Try.checked) own started (by kernel_rfl) Try.func6
    (ChangeSpec.witness6 (enc := enc) (C := Try.checked) false ⟨#[], #[.slice none 0 0, .slice none 0 0, .slice none 0 0], []⟩ 8 (by kernel_rfl) (by kernel_rfl) (by kernel_rfl) (by kernel_rfl)) ?_
  intro W base args ds gs before hval0 hW hcnd _
  have hval : ∀ (j : Nat) t v, Try.f6.params[j]? = some t → args[j]? = some v → Value.okWide Try.prog W .any base t v := hval0
  have hW' := hW
  obtain ⟨p, q, hA0, hV, rfl, hfz, hnd⟩ := hW
  have hA : DataW.TrodAll enc Try.prog W 0 (fun _ => true) true Try.f6.params.toList args.toList ds p := hA0
  rw [Try.params6] at hA hval
  obtain ⟨v0, vs0, d0, ds0, p0, q0, hargs, rfl, rfl, h0, r0⟩ := trodAll_cons hA
  obtain ⟨v1, vs1, d1, ds1, p1, q1, rfl, rfl, rfl, h1, r1⟩ := trodAll_cons r0
  obtain ⟨v2, vs2, d2, ds2, p2, q2, rfl, rfl, rfl, h2, r2⟩ := trodAll_cons r1
  obtain ⟨rfl, rfl, rfl⟩ := trodAll_nil r2
  obtain rfl : args = #[v0, v1, v2] := by cases args; simp_all
  obtain ⟨rfl, rfl⟩ := trodVars_none hV
  obtain ⟨a0, len0, cap0, rfl⟩ := okWide_slice Try.underlying22 (hval 0 22 v0 rfl rfl)
  have k0 := h0
  have lt0 : ∀ x ∈ p0, x.block < W.heap.size := by obtain ⟨m, hm⟩ := k0; exact DataW.trod_lt m _ _ _ hm
  obtain ⟨l0, w0⟩ := gints_open h0
  obtain ⟨a1, len1, cap1, rfl⟩ := okWide_slice Try.underlying49 (hval 1 49 v1 rfl rfl)
  have k1 := h1
  have lt1 : ∀ x ∈ p1, x.block < W.heap.size := by obtain ⟨m, hm⟩ := k1; exact DataW.trod_lt m _ _ _ hm
  obtain ⟨l1, w1⟩ := bools_open h1
  obtain ⟨a2, len2, cap2, rfl⟩ := okWide_slice Try.underlying22 (hval 2 22 v2 rfl rfl)
  have k2 := h2
  have lt2 : ∀ x ∈ p2, x.block < W.heap.size := by obtain ⟨m, hm⟩ := k2; exact DataW.trod_lt m _ _ _ hm
  obtain ⟨l2, w2⟩ := gints_open h2
  clear hA0 hval0
  refine (walk (.slice a0 len0 cap0) l0 (.slice a1 len1 cap1) l1 (.slice a2 len2 cap2) l2 W w0 w1 w2).mono fun e W' ⟨he, bel⟩ => ?_
  subst he
  exact ⟨_, rfl, _, _, _, [], _, [], hW', trodAll_mk1 (shut_bool Try.underlying4 _), (trodAll_cons_mk (Below.trod laidOut (by kernel_rfl) (of_decide_eq_true (by kernel_rfl)) k0 bel lt0) (trodAll_cons_mk (Below.trod laidOut (by kernel_rfl) (of_decide_eq_true (by kernel_rfl)) k1 bel lt1) (trodAll_cons_mk (Below.trod laidOut (by kernel_rfl) (of_decide_eq_true (by kernel_rfl)) k2 bel lt2) trodAll_mk0))), rfl, bel.frame _, fun h => by cases h⟩

theorem over : Rows.bagTakesRow.holds Try.pinned (OpenSpec.ofChange Rows.bagTakesSpec) :=
  OpenClaim.holds_of_wide 6 Try.f6 rfl rfl rfl rfl rfl rfl rfl ⟨rfl, rfl, rfl, rfl, rfl⟩ rfl rfl rfl rfl rfl (by kernel_rfl) Try.func6 (by kernel_rfl)
    (of_decide_eq_true (by kernel_rfl)) (by unfold Func.isWrapper; first | (rw [if_pos (by decide +kernel)]; kernel_rfl) | (rw [if_neg (by decide +kernel)]; exact ⟨rfl, rfl⟩))
    (fun os started H enc _ => lifted os started H enc)
end Go.Proofs.Ytkflkkdfklbfpaa.BagTakes

namespace Go.Proofs.Ytkflkkdfklbfpaa
theorem bagTakes_holds : Rows.BagTakesSaid := BagTakes.over
#print axioms bagTakes_holds
end Go.Proofs.Ytkflkkdfklbfpaa
