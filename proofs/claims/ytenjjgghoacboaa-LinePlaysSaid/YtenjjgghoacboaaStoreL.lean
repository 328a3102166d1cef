/-
  THE PROGRAM's STORE: Bytes. Merged by gen/merge.py.
-/
import Derived.Test.YtenjjgghoacboaaPackK
import Derived.RangeFuncOwn
import Derived.Test.YtenjjgghoacboaaPackQ
import Derived.Deep.MidRow
import Derived.Test.YtenjjgghoacboaaStoreF
/-! ## StoreW -/
/-
  NUMBERS AND VERSIONS PUT. No condition but that the bytes stay below 2^47.
-/
namespace Go.Proofs.Ytenjjgghoacboaa
open Go.RowKit

set_option maxHeartbeats 1000000 in
/-- A number that is not below 0, put. -/
theorem sputint_any (g v : Nat) (hv : v < 9223372036854775808) (xs : List UInt8) (w : World) (hW : Wrt w g xs) (hlim : xs.length + 10 ≤ 140737488355328) :
    Calls Try.prog 65 #[.pointer (some ⟨g, 0, none⟩), .int .i64 v] w fun e w' => e = .returned (.tuple #[]) ∧ Wrt w' g (xs ++ Lib.uvarint v) ∧ Below g w w' ∧ KeepU g w w' := by
  have H := Lib.hid (wnumk_any g v (by omega) xs w hW hlim)
  have h0 : (0 : Int) ≤ (v : Int) := by omega
  have h1 : (v : Int) < 9223372036854775808 := by omega
  clear hW
  go_enter Try.func65, Try.ntmps65
  go_wp2_with fail
  refine H.out.mono ?_
  rintro e w1 ⟨rfl, h2, h3, h4⟩
  go_wp2
  go_end0
  exact ⟨rfl, h2, h3, h4⟩

/-- A version's bytes. -/
def verB (v : VerV) : List UInt8 := (if v.gone then 1 else 0) :: (Lib.uvarint v.data.size ++ v.data.data.toList)
def versB (L : List VerV) : List UInt8 := L.flatMap verB
theorem versB_snoc (L : List VerV) (v : VerV) : versB (L ++ [v]) = versB L ++ verB v := by simp [versB]
theorem verB_len (v : VerV) (h : v.data.size ≤ 64) : (verB v).length ≤ 75 := by
  have h1 := Lib.uvarint_length64 (x := v.data.size) (by omega)
  have h2 : v.data.data.toList.length = v.data.size := by rw [Array.length_toList]; rfl
  simp only [verB, List.length_cons, List.length_append]
  omega
theorem versB_len (L : List VerV) (h : ∀ v ∈ L, v.data.size ≤ 64) : (versB L).length ≤ L.length * 75 := by
  induction L with
  | nil => simp [versB]
  | cons v L ih =>
    have h1 := verB_len v (h v (by simp))
    have h2 := ih fun x hx => h x (by simp [hx])
    simp only [versB, List.flatMap_cons, List.length_append, List.length_cons] at h2 ⊢
    omega

set_option maxRecDepth 100000 in
set_option maxHeartbeats 2000000 in
theorem putvers_any (g : Nat) (v : Value) (L : List VerV) (n : Nat) (xs : List UInt8) (w : World) (hn : L.length = n) (hW : Wrt w g xs) (hV : Vers w g v L) (hL : n ≤ 100) (hs : ∀ x ∈ L, x.data.size ≤ 64) (hlim : xs.length + 10000 ≤ 140737488355328) :
    Calls Try.prog 67 #[.pointer (some ⟨g, 0, none⟩), v] w fun e w' => e = .returned (.tuple #[]) ∧ Wrt w' g (xs ++ Lib.uvarint n ++ versB L) ∧ Below g w w' ∧ KeepU g w w' := by
  obtain ⟨ao, cap, rfl⟩ := hV.shape
  rw [hn] at hV ⊢
  have hul : (Lib.uvarint n).length ≤ 10 := Lib.uvarint_length64 (by omega)
  have H := Lib.hid (sputint_any g n (by omega) xs w hW (by omega))
  have HV := Lib.hid hV
  have HS := Lib.hid hs
  have HN := Lib.hid hn
  have HG := Lib.hid hW.lt
  have hx0 : (xs ++ Lib.uvarint n).length ≤ 140737488345338 := by rw [List.length_append]; omega
  clear hW hV hs hn hlim
  go_enter Try.func67, Try.ntmps67
  go_wp2_with fail
  refine H.out.mono ?_
  rintro e w1 ⟨rfl, W1, B1, K1⟩
  have HW1 := Lib.hid W1
  have HB1 := Lib.hid B1
  have HK1 := Lib.hid K1
  generalize hys : xs ++ Lib.uvarint n = ys at HW1 hx0
  have HYS := Lib.hid hys
  clear W1 B1 K1 hys H
  go_wp2
  go_loopw [12] (fun vi wr => ∃ k : Nat, k ≤ n ∧ vi = .int .i64 k ∧ Wrt wr g (ys ++ versB (L.take k)) ∧ Below g w wr ∧ KeepU g w wr) (fun vi _ => n - (intOf vi).toNat)
  case atStart => exact ⟨0, by omega, rfl, by simpa [versB] using HW1.out, HB1.out, HK1.out⟩
  case round =>
    obtain ⟨k, hk, rfl, hw, hb, hko⟩ := hrel
    have HW := Lib.hid hw
    have HB := Lib.hid hb
    have HK := Lib.hid hko
    clear hw hb hko
    by_cases hlt : k < n
    · have hkL : k < L.length := by rw [HN.out]; exact hlt
      obtain ⟨b, off, rfl, hbg, hc⟩ := HV.out.at (by omega)
      have hc' := hc k hkL
      have c0 : wr.cell? ⟨b, off + k * 2, none⟩ = some (.bool (at' L k).gone) := (HB.out.cell (p := ⟨b, off + k * 2, none⟩) hbg).trans hc'.1
      have c1 : wr.cell? ⟨b, off + k * 2 + 1, none⟩ = some (.string (at' L k).data) := (HB.out.cell (p := ⟨b, off + k * 2 + 1, none⟩) hbg).trans hc'.2
      have hmem : at' L k ∈ L := by rw [show at' L k = L[k] by simp [at', List.getD, hkL]]; exact List.getElem_mem hkL
      have hsz := HS.out _ hmem
      have HT : Hid (L.take (k + 1) = L.take k ++ [at' L k]) := by
        show _ = _
        rw [List.take_succ_eq_append_getElem hkL]
        simp [at', List.getD, hkL]
      have hlen : (ys ++ versB (L.take k)).length ≤ ys.length + 7500 := by
        have h1 := versB_len (L.take k) (fun x hx => HS.out x (List.mem_of_mem_take hx))
        have h2 : (L.take k).length ≤ k := by simp; omega
        rw [List.length_append]
        have : (L.take k).length * 75 ≤ 100 * 75 := Nat.mul_le_mul_right _ (by omega)
        omega
      clear hc hc' hmem hkL
      generalize at' L k = x at c0 c1 hsz HT
      obtain ⟨gn, d⟩ := x
      simp only at c0 c1 hsz
      have i0 : (0 : Int) ≤ (k : Int) := by omega
      have i1 : (k : Int) < (n : Int) := by omega
      generalize hzs : ys ++ versB (L.take k) = zs at HW hlen
      have HZ := Lib.hid hzs
      have hgl := HW.out.lt
      have HY := Lib.hid (wyesk_any g gn zs (wr.alloc (.cells #[.bool gn, .string d] 121)) (HW.out.alloc _) (by omega))
      have X1 := Lib.hid (heap_alloc_new wr (.cells #[.bool gn, .string d] 121))
      clear hzs
      go_wp2_with fail
      refine HY.out.mono ?_
      rintro e w2 ⟨rfl, W2, B2, K2⟩
      have hX2 : w2.heap[wr.heap.size]? = some (.cells #[.bool gn, .string d] 121 (0, 0)) := K2.same _ _ X1.out (by omega) (by intro cs fr h; injection h with _ h2 _; exact absurd h2 (by decide))
      have c2 : w2.cell? ⟨wr.heap.size, 1, none⟩ = some (.string d) := cell_of_row _ _ 1 _ _ _ hX2
      have HW2 := Lib.hid W2
      have HB2 : Hid (Below g w w2) := HB.out.trans (((Below.refl _ _).alloc (by omega) _).trans B2)
      have HK2 : Hid (KeepU g w w2) := (HK.out.trans (KeepU.alloc _ _ _)).trans K2
      have HTX := Lib.hid (wtextk_any g d (zs ++ [if gn = true then 1 else 0]) w2 W2 (by rw [List.length_append, List.length_singleton]; omega))
      clear W2 B2 K2 hX2 c0 c1 HY X1 HB HK
      go_wp2_with fail
      refine HTX.out.mono ?_
      rintro e w3 ⟨rfl, W3, B3, K3⟩
      have HW3 := Lib.hid W3
      have HB3 : Hid (Below g w w3) := HB2.out.trans B3
      have HK3 : Hid (KeepU g w w3) := HK2.out.trans K3
      clear W3 B3 K3 c2 HTX HW2 HB2 HK2
      go_wp2
      go_roundw
      case rel =>
        refine ⟨k + 1, by omega, by go_num, ?_, HB3.out, HK3.out⟩
        have h := HW3.out
        rw [← HZ.out] at h
        rw [HT.out, versB_snoc]
        simpa [verB] using h
      case measure => simp [intOf]; omega
    · have HF := HW.out
      rw [List.take_of_length_le (by rw [HN.out]; omega)] at HF
      have HW4 := Lib.hid HF
      clear HF
      go_wp2
      go_end0
      exact ⟨rfl, by rw [HYS.out]; exact HW4.out, HB.out, HK.out⟩
end Go.Proofs.Ytenjjgghoacboaa

/-! ## StoreB -/
/-
  THE PROGRAM's STORE: Bytes.
-/
namespace Go.Proofs.Ytenjjgghoacboaa
open Go.RowKit Go.Shelf

attribute [local go_sem] Oper.semAt_some

/-- A resource's bytes. -/
def resB (r : Nat → List VerV) (i : Nat) : List UInt8 := Lib.uvarint i ++ Lib.uvarint (r i).length ++ versB (r i)
/-- The clients' bytes. -/
def clsB (q p : Nat → Nat) (k : Nat) : List UInt8 := (List.range k).flatMap fun j => Lib.uvarint (q j) ++ Lib.uvarint (p j)
theorem clsB_succ (q p : Nat → Nat) (k : Nat) : clsB q p (k + 1) = clsB q p k ++ (Lib.uvarint (q k) ++ Lib.uvarint (p k)) := by simp [clsB, List.range_succ]
theorem clsB_len (q p : Nat → Nat) (h : ∀ k, k < 4 → q k < 9223372036854775808 ∧ p k < 9223372036854775808) : ∀ k, k ≤ 4 → (clsB q p k).length ≤ k * 20 := by
  intro k
  induction k with
  | zero => intro _; simp [clsB]
  | succ k ih =>
    intro hk
    have h1 := Lib.uvarint_length64 (x := q k) (by have := (h k (by omega)).1; omega)
    have h2 := Lib.uvarint_length64 (x := p k) (by have := (h k (by omega)).2; omega)
    have h3 := ih (by omega)
    rw [clsB_succ, List.length_append, List.length_append]
    omega
/-- The call answers these bytes. -/
def BytesAre (xs : List UInt8) (w : World) (e : Ending) (w' : World) : Prop := ∃ v, e = .returned v ∧ w'.ownsRow w.heap.size 5 1 v xs.length (Lib.byteCells xs) ∧ Below w.heap.size w w'

/-- A whole array read out of the midst of a block. -/
theorem wpListIn_load_mid {F : Fence} {n : Nat} {P : Program} {w : World} {ops : Array Oper} {rest : List Oper} {o : Oper} {a : Act} {Q : Exit → Act → World → Prop} (hgd : o.guard = none) (ty : TypeId) (x : Operand) (ho : o.op = .load ty x)
    (b off : Nat) (hx : a.eval x = .pointer (some ⟨b, off, none⟩)) (cs : List Value) (d : TypeDesc) (hc : w.rangeAt b off cs) (hu : P.underlying ty = some d) (hd : d.isRow = true) (hi : (P.info? ty).map (·.size) = some cs.length)
    (h : wpListIn F n P ops Q rest (a.put o.dst (.agg cs.toArray)) w) : wpListIn F n P ops Q (o :: rest) a w := by
  refine wpListIn_plain hgd fun K hK' => ?_
  have hr := run_loadAt_mid (P := P) w b off ty cs d hc hu hd hi
  unfold Oper.wpIn
  refine ⟨?_, ?_⟩
  · simp [Oper.about, ho]
  · rw [Oper.semAt_plain F _ _ (by rw [ho]; intro c hc'; cases hc')]
    simp [execOp, ho, hx, hr, Result.andThen]
    exact hK' _ _ h

theorem own_low {w : World} {b b' : Nat} {e : TypeId} {size n : Nat} {v : Value} {xs : List Value} (h : w.ownsRow b e size v n xs) (hb : b' ≤ b) : w.ownsRow b' e size v n xs := by
  refine ⟨h.1, ?_⟩
  rcases h.2 with h0 | ⟨g, cap, cur, rfl, hg, rest⟩
  · exact .inl h0
  · exact .inr ⟨g, cap, cur, rfl, Nat.le_trans hb hg, rest⟩
theorem own_row8 {n₀ k : Nat} {v : Value} {xs : List Value} {X Y : World} {row : Option Nat} (hr : X.ownsRow n₀ 5 1 v k xs) (hg : X.grownBy Y row) (hrow : ∀ r, row = some r → ∃ o : Obj, X.heap[r]? = some o ∧ o.isCells = false) : Y.ownsRow n₀ 5 1 v k xs := by
  refine hr.kept hg ?_
  rcases hr.2 with ⟨rfl, _⟩ | ⟨g, cap, cur, rfl, _, hgb, _⟩
  · exact .inl rfl
  · refine .inr fun e' => ?_
    obtain ⟨o, ho, hc⟩ := hrow g (by simpa [Value.ownBlock] using e'.symm)
    rw [hgb] at ho; cases ho; cases hc
theorem wrt_own {β : Type} (g : Nat) (f : β → List UInt8) : Own (fun (s : β) (W : World) => Wrt W g (f s)) := by
  rintro s X Y row ⟨v, e, h1, h2⟩ hg hrow
  exact ⟨v, e, cells_row h1 hg hrow, own_row8 h2 hg hrow⟩
theorem wrt_others {g : Nat} {w w' : World} {xs : List UInt8} (h : Wrt w g xs) (hk : KeepU g w w') : KeepsOthers w w' := by
  obtain ⟨v, e, h1, _⟩ := h
  exact hk.others h1

/-- The bytes of the resources that have come. -/
def entsB (r : Nat → List VerV) (pre : List Ent) : List UInt8 := pre.flatMap fun x => resB r x.i
theorem entsB_snoc (r : Nat → List VerV) (pre : List Ent) (x : Ent) : entsB r (pre ++ [x]) = entsB r pre ++ resB r x.i := by simp [entsB]
theorem resB_len (r : Nat → List VerV) (i : Nat) (hi : i < 32) (h : (r i).length ≤ 100 ∧ ∀ v ∈ r i, v.data.size ≤ 64) : (resB r i).length ≤ 7520 := by
  have h1 := Lib.uvarint_length64 (x := i) (by omega)
  have h2 := Lib.uvarint_length64 (x := (r i).length) (by have := h.1; omega)
  have h3 := versB_len (r i) h.2
  have h4 : (r i).length * 75 ≤ 100 * 75 := Nat.mul_le_mul_right _ h.1
  simp only [resB, List.length_append]
  omega
theorem entsB_len (r : Nat → List VerV) (h : ∀ k, k < 32 → (r k).length ≤ 100 ∧ ∀ v ∈ r k, v.data.size ≤ 64) (pre : List Ent) : (entsB r pre).length ≤ pre.length * 7520 := by
  induction pre with
  | nil => simp [entsB]
  | cons x pre ih =>
    have h1 := resB_len r x.i x.h (h x.i x.h)
    simp only [entsB, List.flatMap_cons, List.length_append, List.length_cons] at ih ⊢
    omega
theorem entsB_come (r : Nat → List VerV) (k : Nat) (hk : k ≤ 32) : entsB r (comeS r k) = (idsV r k).flatMap (resB r) := by
  unfold entsB comeS
  rw [List.flatMap_map]
  have : ∀ l : List Nat, (∀ j ∈ l, j < 32) → l.flatMap (fun j => resB r (entV j).i) = l.flatMap (resB r) := by
    intro l hl
    induction l with
    | nil => rfl
    | cons j l ih =>
      rw [List.flatMap_cons, List.flatMap_cons, ih fun i hi => hl i (by simp [hi])]
      have hj : j < 32 := hl j (by simp)
      have e : (entV j).i = j := by simp only [entV]; omega
      rw [e]
  exact this _ fun j hj => by have : j < k := by simpa using (List.mem_filter.1 hj).1
                              omega

theorem idx_last (q p : Nat → Nat) (c v : Nat → Int) (d : Nat → ByteArray) (a : Nat → Option Addr) (z : Nat → Nat) : ∀ k : Nat, k < 4 → ∀ w, (Instr.index 111 (.agg #[.int .i64 (q 0 : Nat), .int .i64 (c 0), .int .i64 (v 0), .string (d 0), .slice (a 0) 0 (z 0), .int .i64 (p 0 : Nat), .int .i64 (q 1 : Nat), .int .i64 (c 1), .int .i64 (v 1), .string (d 1), .slice (a 1) 0 (z 1), .int .i64 (p 1 : Nat), .int .i64 (q 2 : Nat), .int .i64 (c 2), .int .i64 (v 2), .string (d 2), .slice (a 2) 0 (z 2), .int .i64 (p 2 : Nat), .int .i64 (q 3 : Nat), .int .i64 (c 3), .int .i64 (v 3), .string (d 3), .slice (a 3) 0 (z 3), .int .i64 (p 3 : Nat)]) (.int .i64 k)).run Try.prog w = .ok (.agg #[.int .i64 (q k : Nat), .int .i64 (c k), .int .i64 (v k), .string (d k), .slice (a k) 0 (z k), .int .i64 (p k : Nat)]) w
  | 0, _ => fun _ => by kernel_rfl
  | 1, _ => fun _ => by kernel_rfl
  | 2, _ => fun _ => by kernel_rfl
  | 3, _ => fun _ => by kernel_rfl

set_option maxRecDepth 100000 in
set_option maxHeartbeats 4000000 in
theorem sbytes_in (b P : Nat) (hP : P < 9223372036854775808) (q p : Nat → Nat) (c v : Nat → Int) (d : Nat → ByteArray) (a : Nat → Option Addr) (z : Nat → Nat) (hqp : ∀ k, k < 4 → q k < 9223372036854775808 ∧ p k < 9223372036854775808) (r : Nat → List VerV) (sl : Nat → Value) (w : World) (hb : b < w.heap.size)
    (hsl : ∀ k, k < 32 → ∃ ao cap, sl k = .slice ao (r k).length cap) (hlen : ∀ k, k < 32 → (r k).length ≤ 100 ∧ ∀ v ∈ r k, v.data.size ≤ 64) (hI : ∀ k, k < 32 → w.cell? ⟨b, 26 + k, none⟩ = some (sl k)) (hV : ∀ k, k < 32 → Vers w w.heap.size (sl k) (r k))
    (HP : Hid (∀ u, Below w.heap.size w u → u.cell? ⟨b, 1, none⟩ = some (.int .i64 P)))
    (HC : Hid (∀ u, Below w.heap.size w u → u.rangeAt b 2 ([.int .i64 (q 0 : Nat), .int .i64 (c 0), .int .i64 (v 0), .string (d 0), .slice (a 0) 0 (z 0), .int .i64 (p 0 : Nat), .int .i64 (q 1 : Nat), .int .i64 (c 1), .int .i64 (v 1), .string (d 1), .slice (a 1) 0 (z 1), .int .i64 (p 1 : Nat), .int .i64 (q 2 : Nat), .int .i64 (c 2), .int .i64 (v 2), .string (d 2), .slice (a 2) 0 (z 2), .int .i64 (p 2 : Nat), .int .i64 (q 3 : Nat), .int .i64 (c 3), .int .i64 (v 3), .string (d 3), .slice (a 3) 0 (z 3), .int .i64 (p 3 : Nat)]))) (bs : List UInt8) (HBS : Hid (bs = Lib.uvarint P ++ clsB q p 4 ++ (idsV r 32).flatMap (resB r))) :
    CallsIn Fence.wide 5 Try.prog 25 #[.pointer (some ⟨b, 0, none⟩)] w (BytesAre bs w) := by
  have HI0 := Lib.hid hI
  have HS := Lib.hid hsl
  have HL := Lib.hid hlen
  have HV := Lib.hid hV
  have HQ := Lib.hid hqp
  have HX := Lib.hid (idx_last q p c v d a z)
  clear hI hsl hlen hV hqp
  refine callsIn_of_wp_marks Try.func25 rfl trivial ?_ rfl
  simp only [Try.ntmps25, List.size_toArray, List.length_cons, List.length_nil, Nat.reduceAdd, Nat.reduceSub, Array.replicate_succ, Array.replicate_zero, List.push_toArray, List.append_toArray, List.nil_append, List.cons_append]
  have HA : Hid (Below w.heap.size w (w.alloc (.cells #[.slice none 0 0] 106))) := (Below.refl _ w).alloc (Nat.le_refl _) _
  have HW0 : Hid (Wrt (w.alloc (.cells #[.slice none 0 0] 106)) w.heap.size []) := Wrt.fresh w 106
  have cp := HP.out _ HA.out
  have HT0 := Lib.hid (sputint_any w.heap.size P hP [] _ HW0.out (by simp))
  gi_wp2_with fail
  refine ⟨trivial, (callsIn_wide.2 HT0.out).mono ?_⟩
  rintro e u0 ⟨rfl, W0, B0, K0⟩
  have hl0 : (Lib.uvarint P).length ≤ 10 := Lib.uvarint_length64 (by omega)
  rw [List.nil_append] at W0
  obtain ⟨y0, hy0⟩ : ∃ y, y = Lib.uvarint P := ⟨_, rfl⟩
  rw [← hy0] at W0 hl0
  have HY0 := Lib.hid hy0
  have HW1 := Lib.hid W0
  have HB1 : Hid (Below w.heap.size w u0) := HA.out.trans B0
  have HR := Lib.hid (HC.out _ HB1.out)
  clear W0 B0 K0 hy0 cp HT0 HA HW0
  gi_wp2_with (with_reducible refine wpListIn_load_mid rfl 111 (.tmp 17) rfl b 2 rfl ([.int .i64 (q 0 : Nat), .int .i64 (c 0), .int .i64 (v 0), .string (d 0), .slice (a 0) 0 (z 0), .int .i64 (p 0 : Nat), .int .i64 (q 1 : Nat), .int .i64 (c 1), .int .i64 (v 1), .string (d 1), .slice (a 1) 0 (z 1), .int .i64 (p 1 : Nat), .int .i64 (q 2 : Nat), .int .i64 (c 2), .int .i64 (v 2), .string (d 2), .slice (a 2) 0 (z 2), .int .i64 (p 2 : Nat), .int .i64 (q 3 : Nat), .int .i64 (c 3), .int .i64 (v 3), .string (d 3), .slice (a 3) 0 (z 3), .int .i64 (p 3 : Nat)]) _ HR.out Try.underlying111 rfl (by kernel_rfl) ?_)
  gi_loopw [19] (fun vi wr => ∃ k : Nat, k ≤ 4 ∧ vi = .int .i64 k ∧ Wrt wr w.heap.size (y0 ++ clsB q p k) ∧ Below w.heap.size w wr) (fun vi _ => 4 - (intOf vi).toNat)
  case atStart => exact ⟨0, by omega, rfl, by simpa [clsB] using HW1.out, HB1.out⟩
  case round =>
    obtain ⟨k, hk, rfl, hw, hbw⟩ := hrel
    have HWk := Lib.hid hw
    have HBk := Lib.hid hbw
    have hlt0 := hw.lt
    clear hw hbw
    have hyl : (y0 ++ clsB q p k).length ≤ 90 := by
      have h1 := clsB_len q p HQ.out k hk
      have h2 : k * 20 ≤ 80 := by omega
      rw [List.length_append]
      omega
    generalize hzs : y0 ++ clsB q p k = zs at HWk hyl
    have HZ := Lib.hid hzs
    clear hzs
    by_cases hlt : k < 4
    · have hx := HX.out k hlt
      obtain ⟨hq, hp⟩ := HQ.out k hlt
      have i0 : (0 : Int) ≤ (k : Int) := by omega
      have i1 : (k : Int) < 4 := by omega
      have XB := Lib.hid (heap_alloc_new wr (.cells #[.int .i64 (q k : Nat), .int .i64 (c k), .int .i64 (v k), .string (d k), .slice (a k) 0 (z k), .int .i64 (p k : Nat)] 110))
      have HT1 := Lib.hid (sputint_any w.heap.size (q k) hq zs (wr.alloc (.cells #[.int .i64 (q k : Nat), .int .i64 (c k), .int .i64 (v k), .string (d k), .slice (a k) 0 (z k), .int .i64 (p k : Nat)] 110)) (HWk.out.alloc _) (by omega))
      gi_wp2_with fail
      refine ⟨trivial, (callsIn_wide.2 HT1.out).mono ?_⟩
      rintro e u1 ⟨rfl, W1, B1, K1⟩
      have hX1 : u1.heap[wr.heap.size]? = some (.cells #[.int .i64 (q k : Nat), .int .i64 (c k), .int .i64 (v k), .string (d k), .slice (a k) 0 (z k), .int .i64 (p k : Nat)] 110 (0, 0)) := K1.same _ _ XB.out (by omega) (by intro cs fr h; injection h with _ h2 _; exact absurd h2 (by decide))
      have x5 : u1.cell? ⟨wr.heap.size, 5, none⟩ = some (.int .i64 (p k : Nat)) := cell_of_row _ _ 5 _ _ _ hX1
      have hl1 : (zs ++ Lib.uvarint (q k)).length ≤ 100 := by
        have h1 := Lib.uvarint_length64 (x := q k) (by omega)
        rw [List.length_append]
        omega
      have HB2 : Hid (Below w.heap.size w u1) := HBk.out.trans (((Below.refl _ _).alloc (by omega) _).trans B1)
      have HW2 := Lib.hid W1
      have HT2 := Lib.hid (sputint_any w.heap.size (p k) hp (zs ++ Lib.uvarint (q k)) u1 W1 (by omega))
      clear W1 B1 K1 hX1 hx HT1 XB
      gi_wp2_with fail
      refine ⟨trivial, (callsIn_wide.2 HT2.out).mono ?_⟩
      rintro e u2 ⟨rfl, W2, B2, K2⟩
      have HB3 : Hid (Below w.heap.size w u2) := HB2.out.trans B2
      have HW3 := Lib.hid W2
      clear W2 B2 K2 x5 HT2 HW2 HB2
      gi_wp2
      go_roundw
      case rel =>
        refine ⟨k + 1, by omega, by go_num, ?_, HB3.out⟩
        have h := HW3.out
        rw [← HZ.out] at h
        rw [clsB_succ]
        simpa using h
      case measure => simp [intOf]; omega
    · obtain rfl : k = 4 := by omega
      obtain ⟨AG, hAG⟩ : ∃ x : Value, x = .agg #[.int .i64 (q 0 : Nat), .int .i64 (c 0), .int .i64 (v 0), .string (d 0), .slice (a 0) 0 (z 0), .int .i64 (p 0 : Nat), .int .i64 (q 1 : Nat), .int .i64 (c 1), .int .i64 (v 1), .string (d 1), .slice (a 1) 0 (z 1), .int .i64 (p 1 : Nat), .int .i64 (q 2 : Nat), .int .i64 (c 2), .int .i64 (v 2), .string (d 2), .slice (a 2) 0 (z 2), .int .i64 (p 2 : Nat), .int .i64 (q 3 : Nat), .int .i64 (c 3), .int .i64 (v 3), .string (d 3), .slice (a 3) 0 (z 3), .int .i64 (p 3 : Nat)] := ⟨_, rfl⟩
      rw [← hAG]
      clear hAG
      gi_wp2_with fail
      refine ⟨trivial, (inorder_in Fence.wide 4 trivial rfl _ _).mono ?_⟩
      rintro e w' ⟨rfl, rfl⟩
      gi_wp2
      obtain ⟨w3, hw3⟩ : ∃ w3, w3 = wr.alloc (.cells #[.pointer (some ⟨b, 26, none⟩)] 158) := ⟨_, rfl⟩
      have hB3 : Below wr.heap.size wr w3 := by rw [hw3]; exact (Below.refl _ _).alloc (Nat.le_refl _) _
      have hs3 : w3.heap.size = wr.heap.size + 1 := by rw [hw3]; simp
      have hN3 : w3.cell? ⟨wr.heap.size, 0, none⟩ = some (.pointer (some ⟨b, 26, none⟩)) := by
        rw [hw3]; exact cell_of_one (heap_alloc_new wr _)
      have hw3w : Wrt w3 w.heap.size zs := by rw [hw3]; exact HWk.out.alloc _
      have hb3 : Below w.heap.size w w3 := HBk.out.trans (hB3.mono HBk.out.size)
      rw [← hw3]
      clear hw3
      have HD := Lib.hid hs3
      clear hs3
      refine wpIn_rangeFunc_ownF rfl (by decide) (gf := 101) (lb := #[.pointer (some ⟨wr.heap.size, 0, none⟩)]) rfl trivial (enters_of Try.func101 (by kernel_rfl) rfl)
        (inorder_stops Fence.wide 4 trivial rfl (by decide) wr.heap.size w.heap.size b r sl HS.out (fun k hk => by have := (HL.out k hk).1; omega) w3 (by rw [HD.out]; omega) (by rw [HD.out]; have := HBk.out.size; omega) hb hN3 (fun k hk => (hb3.cell (p := ⟨b, 26 + k, none⟩) hb).trans (HI0.out k hk)))
        belowK_t (belowK_b (by rw [HD.out]; have := HBk.out.size; omega)) (Below.refl _ _) (fun _ => rfl)
        (fun pre W => Wrt W w.heap.size (zs ++ entsB r pre) ∧ Below w.heap.size w W)
        (fun _ _ _ => False)
        (OwnFrom.and (Own.from (wrt_own w.heap.size (fun pre : List Ent => zs ++ entsB r pre)) _) (ownFrom_below (Nat.le_refl _) (by rw [HD.out]; have := HBk.out.size; omega)))
        (fun _ _ _ _ _ hs _ _ => hs)
        ⟨by simpa [entsB] using hw3w, hb3⟩
        (fun x => { tmps := #[.pointer (some ⟨b, 0, none⟩), undef, .slice none 0 0, .pointer (some ⟨w.heap.size, 0, none⟩), undef, u5, .int .i64 (x.i : Int), sl x.i, .pointer (some ⟨b, 0, none⟩), .bool false, .pointer (some ⟨b, 0, none⟩), .pointer (some ⟨b, 0, none⟩), .pointer (some ⟨b, 1, none⟩), .int .i64 P, .tuple #[],
            .pointer (some ⟨b, 0, none⟩), .pointer (some ⟨b, 0, none⟩), .pointer (some ⟨b, 2, none⟩), AG, .int .i64 4, .bool false, u21, u22, u23, u24, u25, u26, u27, u28, .pointer (some ⟨b, 0, none⟩), .pointer (some ⟨b, 0, none⟩), .pointer (some ⟨b, 26, none⟩),
            .func (.func 101) #[] #[.pointer (some ⟨wr.heap.size, 0, none⟩)], .int .i64 (x.i : Int), sl x.i, undef, undef, undef, undef, undef], defers := [] }) ?assign ?body ?done ?stop
      case assign =>
        intro l x W K hK
        simp only [encS]
        gi_wp2
        exact hK
      case body =>
        rintro l pre ⟨i, hi32⟩ W ⟨hw, hB⟩ hlt
        have hl32 : pre.length < 32 := hlt
        have j0 : (0 : Int) ≤ (i : Int) := by omega
        have j1 : (i : Int) < 32 := by omega
        have hen := entsB_len r HL.out pre
        have hln : (zs ++ entsB r pre).length ≤ 300000 := by
          have : pre.length * 7520 ≤ 32 * 7520 := Nat.mul_le_mul_right _ (by omega)
          rw [List.length_append]; omega
        have hri := HL.out i hi32
        have HVi : Vers W w.heap.size (sl i) (r i) := (HV.out i hi32).keep hB
        have HT1 := Lib.hid (sputint_any w.heap.size i (by omega) (zs ++ entsB r pre) W hw (by omega))
        have HWW := Lib.hid hw
        have HBB := Lib.hid hB
        have HVV := Lib.hid HVi
        have HRI := Lib.hid hri
        have HLN := Lib.hid hln
        clear hlt hen hw hB HVi hri hln
        dsimp only
        gi_wp2_with fail
        refine ⟨trivial, (CallsIn.inRound l (callsIn_wide.2 HT1.out)).mono ?_⟩
        rintro e u1 ⟨rfl, W1, B1, K1⟩
        have hul := Lib.uvarint_length64 (x := i) (by omega)
        have HT2 := Lib.hid (putvers_any w.heap.size (sl i) (r i) (r i).length (zs ++ entsB r pre ++ Lib.uvarint i) u1 rfl W1 (HVV.out.keep B1) HRI.out.1 HRI.out.2 (by have := HLN.out; rw [List.length_append]; omega))
        have HK1 := Lib.hid (wrt_others HWW.out K1)
        have HB1 := Lib.hid B1
        have HW1 := Lib.hid W1
        clear W1 B1 K1 hul
        gi_wp2_with fail
        refine ⟨trivial, (CallsIn.inRound l (callsIn_wide.2 HT2.out)).mono ?_⟩
        rintro e u2 ⟨rfl, W2, B2, K2⟩
        have HK2 := Lib.hid (HK1.out.trans (wrt_others HW1.out K2))
        have HB2 := Lib.hid (HB1.out.trans B2)
        have HW2 := Lib.hid W2
        clear W2 B2 K2
        gi_wp2
        refine ⟨HK2.out, HB2.out, ?_, HBB.out.trans HB2.out⟩
        have h := HW2.out
        rw [entsB_snoc]
        simpa [resB] using h
      case done =>
        rintro D ys W hD rfl ⟨hw, hB⟩ hK
        rw [entsB_come r 32 (Nat.le_refl _), ← HZ.out, HY0.out, ← HBS.out] at hw
        have hDl : D < W.heap.size := (Array.getElem?_eq_some_iff.1 hK).1
        have hbl : bs.length ≤ 300000 := by
          have h1 := entsB_len r HL.out (comeS r 32)
          have h2 := comeS_len r 32
          have h3 : (comeS r 32).length * 7520 ≤ 32 * 7520 := Nat.mul_le_mul_right _ h2
          rw [entsB_come r 32 (Nat.le_refl _)] at h1
          rw [HBS.out, ← HY0.out, HZ.out, List.length_append]
          omega
        have HT := Lib.hid (wbytes_any w.heap.size bs W hw (by omega))
        have HBB := Lib.hid hB
        have HKK := Lib.hid hK
        clear hw hB hK hbl
        gi_wp2_with fail
        refine ⟨trivial, (callsIn_wide.2 HT.out).mono ?_⟩
        rintro e u1 ⟨v', rfl, O1, B1⟩
        have hK1 : u1.heap[D]? = some (.deferred (some [])) := (B1.block D hDl).trans HKK.out
        have HO := Lib.hid (own_low O1 HBB.out.size)
        have HB1 := Lib.hid (HBB.out.trans (B1.mono HBB.out.size))
        clear O1 B1
        gi_wp2
        refine ⟨by simp, .inl ⟨_, _, rfl, run_takeDeferred hK1, ?_⟩⟩
        exact ⟨_, results_tmp rfl _ _ _, _, rfl, ownsRow_putObj HO.out _ hK1 rfl, HB1.out.trans (belowK_b (w := w) (Nat.le_refl _) u1 D _ _ (by rw [HD.out] at hD; have := HBk.out.size; omega) hK1 rfl rfl)⟩
      case stop =>
        rintro D c pre W _ _ h _
        exact h.elim
end Go.Proofs.Ytenjjgghoacboaa

/-! ## StoreC -/
/-
  THE PROGRAM's STORE: Bytes, told of the store.
-/
namespace Go.Proofs.Ytenjjgghoacboaa
open Go.RowKit

/-- A store's bytes. -/
def stoB (s : StoV) : List UInt8 := Lib.uvarint s.places.toNat ++ clsB (fun c => (s.cl c).seq.toNat) (fun c => (s.cl c).place.toNat) 4 ++ (idsV s.res 32).flatMap (resB s.res)
theorem stoB_len (s : StoV) (N : Nat) (hf : Fit s N) (hN : N ≤ 1000000) : (stoB s).length ≤ 300000 := by
  have h0 := Lib.uvarint_length64 (x := s.places.toNat) (by have := hf.places; omega)
  have h1 := clsB_len (fun c => (s.cl c).seq.toNat) (fun c => (s.cl c).place.toNat) (fun c hc => by have := hf.cl c hc; have := hf.places; omega) 4 (by omega)
  have h2 := entsB_len s.res hf.res (comeS s.res 32)
  have h3 : (comeS s.res 32).length * 7520 ≤ 32 * 7520 := Nat.mul_le_mul_right _ (comeS_len s.res 32)
  rw [entsB_come s.res 32 (Nat.le_refl _)] at h2
  simp only [stoB, List.length_append]
  omega

/-- The clients' cells are a row. -/
theorem sto_row {b : Nat} {s : StoV} {u : World} (y : Nat → Option Addr × Nat) (hk : ∀ k, k < 4 → u.cell? ⟨b, 2 + k * 6, none⟩ = some (.int .i64 (s.cl k).seq) ∧ u.cell? ⟨b, 2 + k * 6 + 1, none⟩ = some (.int .i64 (s.cl k).code) ∧ u.cell? ⟨b, 2 + k * 6 + 2, none⟩ = some (.int .i64 (s.cl k).ver) ∧
    u.cell? ⟨b, 2 + k * 6 + 3, none⟩ = some (.string (s.cl k).data) ∧ u.cell? ⟨b, 2 + k * 6 + 4, none⟩ = some (.slice (y k).1 0 (y k).2) ∧ u.cell? ⟨b, 2 + k * 6 + 5, none⟩ = some (.int .i64 (s.cl k).place)) (hf : ∀ k, k < 4 → 0 ≤ (s.cl k).seq ∧ 0 ≤ (s.cl k).place) :
    u.rangeAt b 2 [.int .i64 ((s.cl 0).seq.toNat : Nat), .int .i64 (s.cl 0).code, .int .i64 (s.cl 0).ver, .string (s.cl 0).data, .slice (y 0).1 0 (y 0).2, .int .i64 ((s.cl 0).place.toNat : Nat), .int .i64 ((s.cl 1).seq.toNat : Nat), .int .i64 (s.cl 1).code, .int .i64 (s.cl 1).ver, .string (s.cl 1).data, .slice (y 1).1 0 (y 1).2, .int .i64 ((s.cl 1).place.toNat : Nat), .int .i64 ((s.cl 2).seq.toNat : Nat), .int .i64 (s.cl 2).code, .int .i64 (s.cl 2).ver, .string (s.cl 2).data, .slice (y 2).1 0 (y 2).2, .int .i64 ((s.cl 2).place.toNat : Nat), .int .i64 ((s.cl 3).seq.toNat : Nat), .int .i64 (s.cl 3).code, .int .i64 (s.cl 3).ver, .string (s.cl 3).data, .slice (y 3).1 0 (y 3).2, .int .i64 ((s.cl 3).place.toNat : Nat)] := by
  have f0 := hf 0 (by decide)
  have f1 := hf 1 (by decide)
  have f2 := hf 2 (by decide)
  have f3 := hf 3 (by decide)
  rw [Int.toNat_of_nonneg f0.1, Int.toNat_of_nonneg f0.2, Int.toNat_of_nonneg f1.1, Int.toNat_of_nonneg f1.2, Int.toNat_of_nonneg f2.1, Int.toNat_of_nonneg f2.2, Int.toNat_of_nonneg f3.1, Int.toNat_of_nonneg f3.2]
  have g0 := hk 0 (by decide)
  have g1 := hk 1 (by decide)
  have g2 := hk 2 (by decide)
  have g3 := hk 3 (by decide)
  intro j v hj
  exact match j, hj with
  | 0, hj => by simp at hj; subst hj; exact g0.1
  | 1, hj => by simp at hj; subst hj; exact g0.2.1
  | 2, hj => by simp at hj; subst hj; exact g0.2.2.1
  | 3, hj => by simp at hj; subst hj; exact g0.2.2.2.1
  | 4, hj => by simp at hj; subst hj; exact g0.2.2.2.2.1
  | 5, hj => by simp at hj; subst hj; exact g0.2.2.2.2.2
  | 6, hj => by simp at hj; subst hj; exact g1.1
  | 7, hj => by simp at hj; subst hj; exact g1.2.1
  | 8, hj => by simp at hj; subst hj; exact g1.2.2.1
  | 9, hj => by simp at hj; subst hj; exact g1.2.2.2.1
  | 10, hj => by simp at hj; subst hj; exact g1.2.2.2.2.1
  | 11, hj => by simp at hj; subst hj; exact g1.2.2.2.2.2
  | 12, hj => by simp at hj; subst hj; exact g2.1
  | 13, hj => by simp at hj; subst hj; exact g2.2.1
  | 14, hj => by simp at hj; subst hj; exact g2.2.2.1
  | 15, hj => by simp at hj; subst hj; exact g2.2.2.2.1
  | 16, hj => by simp at hj; subst hj; exact g2.2.2.2.2.1
  | 17, hj => by simp at hj; subst hj; exact g2.2.2.2.2.2
  | 18, hj => by simp at hj; subst hj; exact g3.1
  | 19, hj => by simp at hj; subst hj; exact g3.2.1
  | 20, hj => by simp at hj; subst hj; exact g3.2.2.1
  | 21, hj => by simp at hj; subst hj; exact g3.2.2.2.1
  | 22, hj => by simp at hj; subst hj; exact g3.2.2.2.2.1
  | 23, hj => by simp at hj; subst hj; exact g3.2.2.2.2.2
  | j + 24, hj => by simp at hj

theorem sbytes_r (b : Nat) (s : StoV) (N : Nat) (w : World) (h : Sto layP w b s) (hf : Fit s N) (hN : N ≤ 1000000) : Calls Try.prog 25 #[.pointer (some ⟨b, 0, none⟩)] w (BytesAre (stoB s) w) := by
  have hbl := h.lt
  obtain ⟨f, hk, ht⟩ := h
  have each : ∀ c, c < 4 → ∃ y : Option Addr × Nat, f (layP.list c) = .slice y.1 0 y.2 := fun c hc => by
    obtain ⟨ao, cap, he, _⟩ := (ht.2.2.2.1 c hc).2.2.2.2.2
    exact ⟨(ao, cap), he⟩
  obtain ⟨y, hy⟩ := Go.Deep.choose_lt each
  have hC : ∀ u, Below w.heap.size w u → u.rangeAt b 2 [.int .i64 ((s.cl 0).seq.toNat : Nat), .int .i64 (s.cl 0).code, .int .i64 (s.cl 0).ver, .string (s.cl 0).data, .slice (y 0).1 0 (y 0).2, .int .i64 ((s.cl 0).place.toNat : Nat), .int .i64 ((s.cl 1).seq.toNat : Nat), .int .i64 (s.cl 1).code, .int .i64 (s.cl 1).ver, .string (s.cl 1).data, .slice (y 1).1 0 (y 1).2, .int .i64 ((s.cl 1).place.toNat : Nat), .int .i64 ((s.cl 2).seq.toNat : Nat), .int .i64 (s.cl 2).code, .int .i64 (s.cl 2).ver, .string (s.cl 2).data, .slice (y 2).1 0 (y 2).2, .int .i64 ((s.cl 2).place.toNat : Nat), .int .i64 ((s.cl 3).seq.toNat : Nat), .int .i64 (s.cl 3).code, .int .i64 (s.cl 3).ver, .string (s.cl 3).data, .slice (y 3).1 0 (y 3).2, .int .i64 ((s.cl 3).place.toNat : Nat)] := fun u hu => by
    refine sto_row y (fun k hk4 => ?_) (fun k hk4 => by have := hf.cl k hk4; omega)
    obtain ⟨g1, g2, g3, g4, g5, g6⟩ := ht.2.2.2.1 k hk4
    have e := hy k hk4
    have cc : ∀ j, j < 6 → u.cell? ⟨b, 2 + k * 6 + j, none⟩ = some (f (2 + k * 6 + j)) := fun j hj => (hu.cell (p := ⟨b, 2 + k * 6 + j, none⟩) hbl).trans (hk.cell (2 + k * 6 + j) (by omega))
    exact ⟨(cc 0 (by omega)).trans (congrArg some g1), (cc 1 (by omega)).trans (congrArg some g3), (cc 2 (by omega)).trans (congrArg some g4), (cc 3 (by omega)).trans (congrArg some g5), (cc 4 (by omega)).trans (congrArg some e), (cc 5 (by omega)).trans (congrArg some g2)⟩
  have hpl := hf.places
  refine callsIn_wide.1 (sbytes_in b s.places.toNat (by omega) (fun c => (s.cl c).seq.toNat) (fun c => (s.cl c).place.toNat) (fun c => (s.cl c).code) (fun c => (s.cl c).ver) (fun c => (s.cl c).data) (fun c => (y c).1) (fun c => (y c).2) (fun k hk4 => by have := hf.cl k hk4; omega)
    s.res (fun i => f (26 + i)) w hbl (fun i hi => (ht.2.2.2.2 i hi).shape) hf.res (fun i hi => hk.cell (26 + i) (by omega)) (fun i hi => ht.2.2.2.2 i hi) (fun u hu => ?_) hC (stoB s) (show _ = _ from rfl))
  rw [Int.toNat_of_nonneg hpl.1, ← ht.2.2.1]
  exact (hu.cell (p := ⟨b, 1, none⟩) hbl).trans (hk.cell 1 (by decide))
end Go.Proofs.Ytenjjgghoacboaa

/-! ## StoreL -/
/-
  FOR THE LAWS ON A STORE: its bytes as a string. No condition.
-/
namespace Go.Proofs.Ytenjjgghoacboaa
open Go.RowKit

def stoS (s : StoV) : ByteArray := ⟨(stoB s).toArray⟩
/-- The call answers bytes that are this string. -/
def BytesStr (S : ByteArray) (w : World) (e : Ending) (w' : World) : Prop :=
  ∃ ao n cap, e = .returned (.slice ao n cap) ∧ (∀ u, Below w'.heap.size w' u → (convert 54 9 (.slice ao n cap)).run Try.prog u = .ok (.string S) u) ∧ Below w.heap.size w w'
theorem BytesAre.str {bs : List UInt8} {w : World} {e : Ending} {w' : World} (h : BytesAre bs w e w') : BytesStr ⟨bs.toArray⟩ w e w' := by
  obtain ⟨v, rfl, ho, hb⟩ := h
  have hy := byt_own ho (Nat.le_refl _)
  obtain ⟨a, c, rfl⟩ := own_shape ho
  exact ⟨a, _, c, rfl, fun u hu => run_conv_byt (hy.keep hu), hb⟩
theorem sbytes_s (b : Nat) (s : StoV) (N : Nat) (w : World) (h : Sto layP w b s) (hf : Fit s N) (hN : N ≤ 1000000) : Calls Try.prog 25 #[.pointer (some ⟨b, 0, none⟩)] w (BytesStr (stoS s) w) :=
  (sbytes_r b s N w h hf hN).mono fun _ _ h => h.str

end Go.Proofs.Ytenjjgghoacboaa
