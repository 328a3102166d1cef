/-
  THE REFERENCE's STORE: Bytes.
-/
import Derived.Test.YtenjjgghoacboaaStoreL
import Derived.Test.YtenjjgghoacboaaStoreG
import Derived.Test.YtenjjgghoacboaaItemRPut
namespace Go.Proofs.Ytenjjgghoacboaa
open Go.RowKit

set_option maxRecDepth 100000 in
set_option maxHeartbeats 4000000 in
theorem rbytes_in (b P : Nat) (hP : P < 9223372036854775808) (q p : Nat → Nat) (hqp : ∀ k, k < 4 → q k < 9223372036854775808 ∧ p k < 9223372036854775808) (r : Nat → List VerV) (w : World)
    (hlen : ∀ k, k < 32 → (r k).length ≤ 100 ∧ ∀ v ∈ r k, v.data.size ≤ 64)
    (HP : Hid (∀ u, Below w.heap.size w u → u.cell? ⟨b, 1, none⟩ = some (.int .i64 P)))
    (HC : Hid (∀ k, k < 4 → ∀ u, Below w.heap.size w u → u.cell? ⟨b, 34 + k, none⟩ = some (.int .i64 (q k : Nat)) ∧ u.cell? ⟨b, 38 + k, none⟩ = some (.int .i64 (p k : Nat))))
    (HV : Hid (∀ i, i < 32 → ∃ ao cap, (∀ u, Below w.heap.size w u → u.cell? ⟨b, 2 + i, none⟩ = some (.slice ao (r i).length cap)) ∧ Vers w w.heap.size (.slice ao (r i).length cap) (r i)))
    (T : ByteArray) (HBS : Hid (T = txt (Lib.uvarint P ++ clsB q p 4 ++ (idsV r 32).flatMap (resB r)))) :
    Calls Try.prog 86 #[.pointer (some ⟨b, 0, none⟩)] w fun e w' => e = .returned (.string T) ∧ Below w.heap.size w w' := by
  have HL := Lib.hid hlen
  have HQ := Lib.hid hqp
  have HN := Lib.hid (fun (n : Nat) (h : n < 18446744073709551616) u => refnum_any n h u)
  have wP := u64_of_nat P (by omega)
  have cP := HP.out w (Below.refl _ _)
  have lP := Lib.uvarint_length64 (x := P) (by omega)
  obtain ⟨y0, hy0⟩ : ∃ y, y = Lib.uvarint P := ⟨_, rfl⟩
  have H0 : Hid (∀ u, Calls Try.prog 114 #[.int .u64 P] u fun e w' => e = .returned (.string (txt y0)) ∧ Below u.heap.size u w') := fun u => by rw [hy0]; exact HN.out P (by omega) u
  rw [← hy0] at lP
  have HY0 := Lib.hid hy0
  clear hlen hqp hy0
  go_enter Try.func86, Try.ntmps86
  go_wp2_with fail
  refine (H0.out _).mono ?_
  rintro e w1 ⟨rfl, B1⟩
  have C1 := Lib.hid B1
  clear B1 cP wP
  go_wp2
  go_loopw [3, 4] (fun vb vc wr => ∃ k : Nat, k ≤ 4 ∧ vc = .int .i64 k ∧ vb = .string (txt (y0 ++ clsB q p k)) ∧ Below w.heap.size w wr) (fun _ vc _ => 4 - (intOf vc).toNat)
  case atStart => exact ⟨0, by omega, rfl, by simp [clsB], C1.out⟩
  case round =>
    obtain ⟨k, hk, rfl, rfl, hbel⟩ := hrel
    have HB := Lib.hid hbel
    have hyl : (y0 ++ clsB q p k).length ≤ 90 := by
      have h1 := clsB_len q p HQ.out k hk
      rw [List.length_append]
      omega
    generalize hzs : y0 ++ clsB q p k = zs at hyl
    have HZ := Lib.hid hzs
    clear hzs hbel
    by_cases hlt : k < 4
    · obtain ⟨hq, hp⟩ := HQ.out k hlt
      have HCk := Lib.hid (HC.out k hlt)
      have HS1 : Hid (clsB q p (k + 1) = clsB q p k ++ (Lib.uvarint (q k) ++ Lib.uvarint (p k))) := clsB_succ q p k
      have h1 := Lib.uvarint_length64 (x := q k) (by omega)
      have h2 := Lib.uvarint_length64 (x := p k) (by omega)
      have a1 := txt_add zs (Lib.uvarint (q k)) (by omega)
      have a2 := txt_add (zs ++ Lib.uvarint (q k)) (Lib.uvarint (p k)) (by rw [List.length_append]; omega)
      have w1q := u64_of_nat (q k) (by omega)
      have w2p := u64_of_nat (p k) (by omega)
      have K1 := Lib.hid (HN.out (q k) (by omega))
      have K2 := Lib.hid (HN.out (p k) (by omega))
      obtain ⟨c1, c2⟩ := HCk.out wr HB.out
      generalize q k = qk at *
      generalize p k = pk at *
      obtain ⟨X0, hX0⟩ : ∃ X, X = txt zs := ⟨_, rfl⟩
      obtain ⟨x1, hx1⟩ : ∃ X, X = txt (Lib.uvarint qk) := ⟨_, rfl⟩
      obtain ⟨x2, hx2⟩ : ∃ X, X = txt (Lib.uvarint pk) := ⟨_, rfl⟩
      obtain ⟨X1, hX1⟩ : ∃ X, X = txt (zs ++ Lib.uvarint qk) := ⟨_, rfl⟩
      obtain ⟨X2, hX2⟩ : ∃ X, X = txt (zs ++ Lib.uvarint qk ++ Lib.uvarint pk) := ⟨_, rfl⟩
      rw [← hX0, ← hx1, ← hX1] at a1
      rw [← hX1, ← hx2, ← hX2] at a2
      rw [← hX0]
      have M1 : Hid (∀ u, Calls Try.prog 114 #[.int .u64 qk] u fun e w' => e = .returned (.string x1) ∧ Below u.heap.size u w') := fun u => by rw [hx1]; exact K1.out u
      have M2 : Hid (∀ u, Calls Try.prog 114 #[.int .u64 pk] u fun e w' => e = .returned (.string x2) ∧ Below u.heap.size u w') := fun u => by rw [hx2]; exact K2.out u
      have HX2 := Lib.hid hX2
      have HW : Hid (∀ X u, Below w.heap.size w X → Below X.heap.size X u → Below w.heap.size w u ∧ u.cell? ⟨b, 34 + k, none⟩ = some (.int .i64 (qk : Nat)) ∧ u.cell? ⟨b, 38 + k, none⟩ = some (.int .i64 (pk : Nat))) := fun X u hX hu => by
        have h := hX.trans (hu.mono hX.size)
        exact ⟨h, HCk.out u h⟩
      have D0 : Below w.heap.size w wr.drew := HB.out.drew
      have i0 : (0 : Int) ≤ (k : Int) := by omega
      have i1 : (k : Int) < 4 := by omega
      clear h1 h2 K1 K2 hX0 hx1 hx2 hX1 hX2 hq hp
      go_wp2_with fail
      go_region_held3 (fun u => u.cell? ⟨b, 34 + k, none⟩ = some (.int .i64 (qk : Nat)) ∧ u.cell? ⟨b, 38 + k, none⟩ = some (.int .i64 (pk : Nat))) (first | assumption | go_keep)
        (first
          | (go_at_call 114; (first | with_reducible refine (M1.out _).mono ?_ | with_reducible refine (M2.out _).mono ?_); rintro e w2 ⟨rfl, B2⟩; obtain ⟨C2, c1, c2⟩ := HW.out _ _ (by assumption) B2))
      rename_i hS
      clear hS c1 c2 a1 a2 w1q w2p
      go_wp2
      go_roundw
      case rel =>
        refine ⟨k + 1, by omega, by go_num, ?_, C2⟩
        rw [HX2.out, HS1.out, ← HZ.out]
        simp
      case measure => simp [intOf]; omega
    · obtain rfl : k = 4 := by omega
      clear HC HQ
      obtain ⟨wo, hwo⟩ : ∃ x, x = wr := ⟨_, rfl⟩
      subst hwo
      go_wp2
      go_loopw [3, 5] (fun vb vi wr => ∃ i : Nat, i ≤ 32 ∧ vi = .int .i64 i ∧ vb = .string (txt (zs ++ entsB r (comeS r i))) ∧ Below w.heap.size w wr) (fun _ vi _ => 32 - (intOf vi).toNat)
      case atStart => exact ⟨0, by omega, rfl, by simp [entsB, comeS, idsV], HB.out⟩
      case round =>
        obtain ⟨i, hi, rfl, rfl, hbel⟩ := hrel
        have HB2 := Lib.hid hbel
        clear hbel
        by_cases hlti : i < 32
        · have i0 : (0 : Int) ≤ (i : Int) := by omega
          have i1 : (i : Int) < 32 := by omega
          have i2 : (i : Int) ≤ 31 := by omega
          obtain ⟨ao, cap, hcc, hvv⟩ := HV.out i hlti
          obtain ⟨hn100, hn64⟩ := HL.out i hlti
          have hen := entsB_len r HL.out (comeS r i)
          have hcl := comeS_len r i
          have HCC := Lib.hid hcc
          have HVV := Lib.hid hvv
          have H64 := Lib.hid hn64
          have ci := hcc wr HB2.out
          have hwl : (zs ++ entsB r (comeS r i)).length ≤ 240730 := by
            have : (comeS r i).length * 7520 ≤ 32 * 7520 := Nat.mul_le_mul_right _ (by omega)
            rw [List.length_append]; omega
          clear hen hcl hcc hvv hn64
          by_cases hz : (r i).length = 0
          · have HE : Hid (comeS r (i + 1) = comeS r i) := by show _ = _; unfold comeS; rw [idsV_no r i hz]
            rw [hz] at ci
            clear hz
            go_wp2
            go_roundw
            case rel => exact ⟨i + 1, by omega, by go_num, by rw [HE.out], HB2.out⟩
            case measure => simp [intOf]; omega
          · have HE : Hid (entsB r (comeS r (i + 1)) = entsB r (comeS r i) ++ resB r i) := by
              show _ = _
              have e : comeS r (i + 1) = comeS r i ++ [entV i] := by unfold comeS; rw [idsV_yes r i (by omega)]; simp
              have e2 : (entV i).i = i := by simp only [entV]; omega
              rw [e, entsB_snoc, e2]
            obtain ⟨us, hus⟩ : ∃ us, us = zs ++ entsB r (comeS r i) := ⟨_, rfl⟩
            rw [← hus] at hwl ⊢
            have HUS := Lib.hid hus
            obtain ⟨L, hL⟩ : ∃ L, L = r i := ⟨_, rfl⟩
            have HLr := Lib.hid hL
            rw [← hL] at hz ci HCC HVV H64 hn100
            obtain ⟨n, hn⟩ : ∃ n, n = L.length := ⟨_, rfl⟩
            have HNn := Lib.hid hn
            rw [← hn] at hz ci HCC HVV hn100
            have hz0 : ((n : Int) == 0) = false := by rw [beq_eq_false_iff_ne]; omega
            have h1 := Lib.uvarint_length64 (x := i) (by omega)
            have h2 := Lib.uvarint_length64 (x := n) (by omega)
            have a1 := txt_add us (Lib.uvarint i) (by omega)
            have a2 := txt_add (us ++ Lib.uvarint i) (Lib.uvarint n) (by rw [List.length_append]; omega)
            have w1q := u64_of_nat i (by omega)
            have w2p := u64_of_nat n (by omega)
            obtain ⟨X0, hX0⟩ : ∃ X, X = txt us := ⟨_, rfl⟩
            obtain ⟨x1, hx1⟩ : ∃ X, X = txt (Lib.uvarint i) := ⟨_, rfl⟩
            obtain ⟨x2, hx2⟩ : ∃ X, X = txt (Lib.uvarint n) := ⟨_, rfl⟩
            obtain ⟨X1, hX1⟩ : ∃ X, X = txt (us ++ Lib.uvarint i) := ⟨_, rfl⟩
            obtain ⟨vs, hvs⟩ : ∃ X, X = us ++ Lib.uvarint i ++ Lib.uvarint n := ⟨_, rfl⟩
            have hvl : vs.length ≤ 240750 := by rw [hvs, List.length_append, List.length_append]; omega
            have HVS := Lib.hid hvs
            obtain ⟨X2, hX2⟩ : ∃ X, X = txt vs := ⟨_, rfl⟩
            rw [← hX0, ← hx1, ← hX1] at a1
            rw [← hX1, ← hx2, ← hvs, ← hX2] at a2
            rw [← hX0]
            have M1 : Hid (∀ u, Calls Try.prog 114 #[.int .u64 i] u fun e w' => e = .returned (.string x1) ∧ Below u.heap.size u w') := fun u => by rw [hx1]; exact HN.out i (by omega) u
            have M2 : Hid (∀ u, Calls Try.prog 114 #[.int .u64 n] u fun e w' => e = .returned (.string x2) ∧ Below u.heap.size u w') := fun u => by rw [hx2]; exact HN.out n (by omega) u
            have HX2 := Lib.hid hX2
            have HW : Hid (∀ X u, Below w.heap.size w X → Below X.heap.size X u → Below w.heap.size w u ∧ u.cell? ⟨b, 2 + i, none⟩ = some (.slice ao n cap)) := fun X u hX hu => by
              have h := hX.trans (hu.mono hX.size)
              exact ⟨h, HCC.out u h⟩
            have D0 : Below w.heap.size w wr.drew := HB2.out.drew
            clear h1 h2 hX0 hx1 hx2 hX1 hX2 hus hL hn hvs hz
            go_wp2_with fail
            go_region_held3 (fun u => u.cell? ⟨b, 2 + i, none⟩ = some (.slice ao n cap)) (first | assumption | go_keep)
              (first
                | (go_at_call 114; (first | with_reducible refine (M1.out _).mono ?_ | with_reducible refine (M2.out _).mono ?_); rintro e w2 ⟨rfl, B2⟩; obtain ⟨C2, ci2⟩ := HW.out _ _ (by assumption) B2))
            rename_i hS
            have HC2 := Lib.hid C2
            clear hS ci ci2 a1 a2 w1q w2p C2 D0 M1 M2 hz0
            obtain ⟨wz, hwz⟩ : ∃ x, x = w2 := ⟨_, rfl⟩
            rw [← hwz]
            rw [← hwz] at HC2
            clear hwz
            go_wp2
            go_loopw [3, 6] (fun vb vj wr => ∃ j : Nat, j ≤ n ∧ vj = .int .i64 j ∧ vb = .string (txt (vs ++ versB (L.take j))) ∧ Below w.heap.size w wr) (fun _ vj _ => n - (intOf vj).toNat)
            case atStart => exact ⟨0, by omega, rfl, by rw [HX2.out]; simp [versB], HC2.out⟩
            case round =>
              obtain ⟨j, hj, rfl, rfl, hbel⟩ := hrel
              have HB3 := Lib.hid hbel
              have cj := HCC.out wr hbel
              clear hbel
              by_cases hltj : j < n
              · have hjL : j < L.length := by rw [← HNn.out]; exact hltj
                obtain ⟨b2, off2, rfl, hb2, hc2⟩ := HVV.out.at (by omega)
                have HCv : Hid (∀ u, Below w.heap.size w u → u.cell? ⟨b2, off2 + j * 2, none⟩ = some (.bool (at' L j).gone) ∧ u.cell? ⟨b2, off2 + j * 2 + 1, none⟩ = some (.string (at' L j).data)) :=
                  fun u hu => ⟨(hu.cell (p := ⟨b2, off2 + j * 2, none⟩) hb2).trans (hc2 j hjL).1, (hu.cell (p := ⟨b2, off2 + j * 2 + 1, none⟩) hb2).trans (hc2 j hjL).2⟩
                have hmem : at' L j ∈ L := by rw [show at' L j = L[j] by simp [at', List.getD, hjL]]; exact List.getElem_mem hjL
                have hsz := H64.out _ hmem
                have HT : Hid (L.take (j + 1) = L.take j ++ [at' L j]) := by
                  show _ = _
                  rw [List.take_succ_eq_append_getElem hjL]
                  simp [at', List.getD, hjL]
                have hl0 : (vs ++ versB (L.take j)).length ≤ 248250 := by
                  have g1 := versB_len (L.take j) (fun x hx => H64.out x (List.mem_of_mem_take hx))
                  have g2 : (L.take j).length ≤ j := by simp; omega
                  have g3 : (L.take j).length * 75 ≤ 100 * 75 := Nat.mul_le_mul_right _ (by omega)
                  rw [List.length_append]; omega
                clear hc2 hmem hjL
                generalize at' L j = v at HCv hsz HT
                obtain ⟨gn, dd⟩ := v
                simp only at HCv hsz
                obtain ⟨c1, c2⟩ := HCv.out wr HB3.out
                obtain ⟨ts, hts⟩ : ∃ X, X = vs ++ versB (L.take j) := ⟨_, rfl⟩
                rw [← hts] at hl0 ⊢
                have HTS := Lib.hid hts
                have h1 := Lib.uvarint_length64 (x := dd.size) (by omega)
                have h2 : dd.data.toList.length = dd.size := by rw [Array.length_toList]; rfl
                have a1 := txt_add ts [if gn then 1 else 0] (by simp only [List.length_cons, List.length_nil]; omega)
                have a2 := txt_add (ts ++ [if gn then 1 else 0]) (Lib.uvarint dd.size ++ dd.data.toList) (by simp only [List.length_append, List.length_cons, List.length_nil]; omega)
                obtain ⟨X0, hX0⟩ : ∃ X, X = txt ts := ⟨_, rfl⟩
                obtain ⟨x1, hx1⟩ : ∃ X, X = txt [if gn then 1 else 0] := ⟨_, rfl⟩
                obtain ⟨x2, hx2⟩ : ∃ X, X = txt (Lib.uvarint dd.size ++ dd.data.toList) := ⟨_, rfl⟩
                obtain ⟨X1, hX1⟩ : ∃ X, X = txt (ts ++ [if gn then 1 else 0]) := ⟨_, rfl⟩
                obtain ⟨X3, hX3⟩ : ∃ X, X = txt (ts ++ [if gn then 1 else 0] ++ (Lib.uvarint dd.size ++ dd.data.toList)) := ⟨_, rfl⟩
                rw [← hX0, ← hx1, ← hX1] at a1
                rw [← hX1, ← hx2, ← hX3] at a2
                rw [← hX0]
                have M1 : Hid (∀ u, Calls Try.prog 115 #[.bool gn] u fun e w' => e = .returned (.string x1) ∧ u = w') := fun u => by rw [hx1]; exact refyes_any gn u
                have M2 : Hid (∀ u, Calls Try.prog 116 #[.string dd] u fun e w' => e = .returned (.string x2) ∧ Below u.heap.size u w') := fun u => by rw [hx2]; exact reftext_any dd u (by omega)
                have HX3 := Lib.hid hX3
                have HW2 : Hid (∀ X u, Below w.heap.size w X → Below X.heap.size X u → Below w.heap.size w u ∧ u.cell? ⟨b, 2 + i, none⟩ = some (.slice (some ⟨b2, off2, none⟩) n cap) ∧ u.cell? ⟨b2, off2 + j * 2, none⟩ = some (.bool gn) ∧ u.cell? ⟨b2, off2 + j * 2 + 1, none⟩ = some (.string dd)) := fun X u hX hu => by
                  have h := hX.trans (hu.mono hX.size)
                  exact ⟨h, HCC.out u h, HCv.out u h⟩
                have D0 : Below w.heap.size w wr.drew := HB3.out.drew
                have j0 : (0 : Int) ≤ (j : Int) := by omega
                have j1 : (j : Int) < (n : Int) := by omega
                clear h1 h2 hX0 hx1 hx2 hX1 hX3 hts
                go_wp2_with fail
                go_region_held3 (fun u => u.cell? ⟨b, 2 + i, none⟩ = some (.slice (some ⟨b2, off2, none⟩) n cap) ∧ u.cell? ⟨b2, off2 + j * 2, none⟩ = some (.bool gn) ∧ u.cell? ⟨b2, off2 + j * 2 + 1, none⟩ = some (.string dd)) (first | assumption | go_keep)
                  (first
                    | (go_at_call 115; refine (M1.out _).mono ?_; rintro e w2 ⟨rfl, rfl⟩)
                    | (go_at_call 116; refine (M2.out _).mono ?_; rintro e w2 ⟨rfl, B2⟩; obtain ⟨C2, k1, k2, k3⟩ := HW2.out _ _ (by assumption) B2))
                rename_i hS
                clear hS k1 k2 k3 a1 a2 c1 c2 cj
                go_wp2
                go_roundw
                case rel =>
                  refine ⟨j + 1, by omega, by go_num, ?_, C2⟩
                  rw [HX3.out, HT.out, versB_snoc, HTS.out]
                  simp [verB]
                case measure => simp [intOf]; omega
              · have hLt : L.take j = L := List.take_of_length_le (by rw [← HNn.out]; omega)
                rw [hLt]
                have HVE : Hid (vs ++ versB L = zs ++ entsB r (comeS r (i + 1))) := by
                  show _ = _
                  rw [HE.out, HVS.out, HUS.out, HNn.out, HLr.out]
                  simp [resB]
                clear hLt
                go_wp2
                go_roundw
                case rel =>
                  (repeat apply Exists.intro)
                  exact ⟨⟨i + 1, by omega, by go_num, by rw [HVE.out], HB3.out⟩, rfl⟩
                case measure => simp [intOf]; omega
        · obtain rfl : i = 32 := by omega
          have HE : Hid (txt (zs ++ entsB r (comeS r 32)) = T) := by
            show _ = _
            rw [HBS.out, entsB_come r 32 (Nat.le_refl _), ← HZ.out, HY0.out]
          rw [HE.out]
          go_wp2
          go_returns
          exact ⟨rfl, HB2.out⟩

/-- The reference's Bytes. -/
theorem rbytes_s (b : Nat) (s : StoV) (N : Nat) (w : World) (h : Sto layR w b s) (hf : Fit s N) (hN : N ≤ 1000000) : Calls Try.prog 86 #[.pointer (some ⟨b, 0, none⟩)] w fun e w' => e = .returned (.string (stoS s)) ∧ Below w.heap.size w w' := by
  have hbl := h.lt
  have hpl := hf.places
  refine rbytes_in b s.places.toNat (by omega) (fun c => (s.cl c).seq.toNat) (fun c => (s.cl c).place.toNat) (fun k hk4 => by have := hf.cl k hk4; omega) s.res w hf.res (fun u hu => ?_) (fun k hk4 u hu => ?_) (fun i hi => ?_) (stoS s) (show _ = _ from rfl)
  · rw [Int.toNat_of_nonneg hpl.1]
    obtain ⟨f, hk, ht⟩ := h.on hu
    exact ht.2.2.1 ▸ hk.cell 1 (by decide)
  · have hc := hf.cl k hk4
    rw [Int.toNat_of_nonneg hc.1, Int.toNat_of_nonneg hc.2.2.1]
    obtain ⟨v, _, g1, _, _, _, _, g6⟩ := sto_clientR (h.on hu) k hk4
    exact ⟨g1, g6⟩
  · obtain ⟨ao, cap, hcc, hvv⟩ := sto_resR h i hi
    exact ⟨ao, cap, fun u hu => (hu.cell (p := ⟨b, 2 + i, none⟩) hbl).trans hcc, hvv⟩
end Go.Proofs.Ytenjjgghoacboaa
