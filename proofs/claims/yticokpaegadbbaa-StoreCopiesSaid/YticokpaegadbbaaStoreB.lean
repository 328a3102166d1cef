/-
  THE PROGRAM's STORE: Bytes.
-/
import Derived.Test.YticokpaegadbbaaStoreI
import Derived.Test.YticokpaegadbbaaStoreW
import Derived.Test.YticokpaegadbbaaStoreT
import Derived.Test.YticokpaegadbbaaPackR
import Derived.Deep.MidRow
namespace Go.Proofs.Yticokpaegadbbaa
open Go.RowKit Go.Shelf

attribute [local go_sem] Oper.semAt_some

/-- A resource's bytes. -/
def resB (r : Nat → List VerV) (i : Nat) : List UInt8 := Lib.uvarint i ++ Lib.uvarint (r i).length ++ versB (r i)
/-- The clients' bytes. -/
def clsB (q p : Nat → Nat) (k : Nat) : List UInt8 := (List.range k).flatMap fun j => Lib.uvarint (q j) ++ Lib.uvarint (p j)
theorem clsB_succ (q p : Nat → Nat) (k : Nat) : clsB q p (k + 1) = clsB q p k ++ (Lib.uvarint (q k) ++ Lib.uvarint (p k)) := by simp [clsB, List.range_succ]
theorem clsB_len (q p : Nat → Nat) (h : ∀ k, k < 4 → q k < 9223372036854775808 ∧ p k < 9223372036854775808) : ∀ k, k ≤ 4 → (clsB q p k).length ≤ k * 20 := by
  intro k
  induction k with
  | zero => intro _; simp [clsB]
  | succ k ih =>
    intro hk
    have h1 := Lib.uvarint_length64 (x := q k) (by have := (h k (by omega)).1; omega)
    have h2 := Lib.uvarint_length64 (x := p k) (by have := (h k (by omega)).2; omega)
    have h3 := ih (by omega)
    rw [clsB_succ, List.length_append, List.length_append]
    omega
/-- The call answers these bytes. -/
def BytesAre (xs : List UInt8) (w : World) (e : Ending) (w' : World) : Prop := ∃ v, e = .returned v ∧ w'.ownsRow w.heap.size 5 1 v xs.length (Lib.byteCells xs) ∧ Below w.heap.size w w'

/-- A whole array read out of the midst of a block. -/
theorem wpListIn_load_mid {F : Fence} {n : Nat} {P : Program} {w : World} {ops : Array Oper} {rest : List Oper} {o : Oper} {a : Act} {Q : Exit → Act → World → Prop} (hgd : o.guard = none) (ty : TypeId) (x : Operand) (ho : o.op = .load ty x)
    (b off : Nat) (hx : a.eval x = .pointer (some ⟨b, off, none⟩)) (cs : List Value) (d : TypeDesc) (hc : w.rangeAt b off cs) (hu : P.underlying ty = some d) (hd : d.isRow = true) (hi : (P.info? ty).map (·.size) = some cs.length)
    (h : wpListIn F n P ops Q rest (a.put o.dst (.agg cs.toArray)) w) : wpListIn F n P ops Q (o :: rest) a w := by
  refine wpListIn_plain hgd fun K hK' => ?_
  have hr := run_loadAt_mid (P := P) w b off ty cs d hc hu hd hi
  unfold Oper.wpIn
  refine ⟨?_, ?_⟩
  · simp [Oper.about, ho]
  · rw [Oper.semAt_plain F _ _ (by rw [ho]; intro c hc'; cases hc')]
    simp [execOp, ho, hx, hr, Result.andThen]
    exact hK' _ _ h

theorem own_low {w : World} {b b' : Nat} {e : TypeId} {size n : Nat} {v : Value} {xs : List Value} (h : w.ownsRow b e size v n xs) (hb : b' ≤ b) : w.ownsRow b' e size v n xs := by
  refine ⟨h.1, ?_⟩
  rcases h.2 with h0 | ⟨g, cap, cur, rfl, hg, rest⟩
  · exact .inl h0
  · exact .inr ⟨g, cap, cur, rfl, Nat.le_trans hb hg, rest⟩
theorem own_row8 {n₀ k : Nat} {v : Value} {xs : List Value} {X Y : World} {row : Option Nat} (hr : X.ownsRow n₀ 5 1 v k xs) (hg : X.grownBy Y row) (hrow : ∀ r, row = some r → ∃ o : Obj, X.heap[r]? = some o ∧ o.isCells = false) : Y.ownsRow n₀ 5 1 v k xs := by
  refine hr.kept hg ?_
  rcases hr.2 with ⟨rfl, _⟩ | ⟨g, cap, cur, rfl, _, hgb, _⟩
  · exact .inl rfl
  · refine .inr fun e' => ?_
    obtain ⟨o, ho, hc⟩ := hrow g (by simpa [Value.ownBlock] using e'.symm)
    rw [hgb] at ho; cases ho; cases hc
theorem wrt_own {β : Type} (g : Nat) (f : β → List UInt8) : Own (fun (s : β) (W : World) => Wrt W g (f s)) := by
  rintro s X Y row ⟨v, e, h1, h2⟩ hg hrow
  exact ⟨v, e, cells_row h1 hg hrow, own_row8 h2 hg hrow⟩
theorem wrt_others {g : Nat} {w w' : World} {xs : List UInt8} (h : Wrt w g xs) (hk : KeepU g w w') : KeepsOthers w w' := by
  obtain ⟨v, e, h1, _⟩ := h
  exact hk.others h1

/-- The bytes of the resources that have come. -/
def entsB (r : Nat → List VerV) (pre : List Ent) : List UInt8 := pre.flatMap fun x => resB r x.i
theorem entsB_snoc (r : Nat → List VerV) (pre : List Ent) (x : Ent) : entsB r (pre ++ [x]) = entsB r pre ++ resB r x.i := by simp [entsB]
theorem resB_len (r : Nat → List VerV) (i : Nat) (hi : i < 32) (h : (r i).length ≤ 100 ∧ ∀ v ∈ r i, v.data.size ≤ 64) : (resB r i).length ≤ 7520 := by
  have h1 := Lib.uvarint_length64 (x := i) (by omega)
  have h2 := Lib.uvarint_length64 (x := (r i).length) (by have := h.1; omega)
  have h3 := versB_len (r i) h.2
  have h4 : (r i).length * 75 ≤ 100 * 75 := Nat.mul_le_mul_right _ h.1
  simp only [resB, List.length_append]
  omega
theorem entsB_len (r : Nat → List VerV) (h : ∀ k, k < 32 → (r k).length ≤ 100 ∧ ∀ v ∈ r k, v.data.size ≤ 64) (pre : List Ent) : (entsB r pre).length ≤ pre.length * 7520 := by
  induction pre with
  | nil => simp [entsB]
  | cons x pre ih =>
    have h1 := resB_len r x.i x.h (h x.i x.h)
    simp only [entsB, List.flatMap_cons, List.length_append, List.length_cons] at ih ⊢
    omega
theorem entsB_come (r : Nat → List VerV) (k : Nat) (hk : k ≤ 32) : entsB r (comeS r k) = (idsV r k).flatMap (resB r) := by
  unfold entsB comeS
  rw [List.flatMap_map]
  have : ∀ l : List Nat, (∀ j ∈ l, j < 32) → l.flatMap (fun j => resB r (entV j).i) = l.flatMap (resB r) := by
    intro l hl
    induction l with
    | nil => rfl
    | cons j l ih =>
      rw [List.flatMap_cons, List.flatMap_cons, ih fun i hi => hl i (by simp [hi])]
      have hj : j < 32 := hl j (by simp)
      have e : (entV j).i = j := by simp only [entV]; omega
      rw [e]
  exact this _ fun j hj => by have : j < k := by simpa using (List.mem_filter.1 hj).1
                              omega

theorem idx_last (q p : Nat → Nat) (c v : Nat → Int) (d : Nat → ByteArray) (a : Nat → Option Addr) (z : Nat → Nat) : ∀ k : Nat, k < 4 → ∀ w, (Instr.index 64 (.agg #[.int .i64 (q 0 : Nat), .int .i64 (c 0), .int .i64 (v 0), .string (d 0), .slice (a 0) 0 (z 0), .int .i64 (p 0 : Nat), .int .i64 (q 1 : Nat), .int .i64 (c 1), .int .i64 (v 1), .string (d 1), .slice (a 1) 0 (z 1), .int .i64 (p 1 : Nat), .int .i64 (q 2 : Nat), .int .i64 (c 2), .int .i64 (v 2), .string (d 2), .slice (a 2) 0 (z 2), .int .i64 (p 2 : Nat), .int .i64 (q 3 : Nat), .int .i64 (c 3), .int .i64 (v 3), .string (d 3), .slice (a 3) 0 (z 3), .int .i64 (p 3 : Nat)]) (.int .i64 k)).run Try.prog w = .ok (.agg #[.int .i64 (q k : Nat), .int .i64 (c k), .int .i64 (v k), .string (d k), .slice (a k) 0 (z k), .int .i64 (p k : Nat)]) w
  | 0, _ => fun _ => by kernel_rfl
  | 1, _ => fun _ => by kernel_rfl
  | 2, _ => fun _ => by kernel_rfl
  | 3, _ => fun _ => by kernel_rfl

set_option maxRecDepth 100000 in
set_option maxHeartbeats 4000000 in
theorem sbytes_in (b P : Nat) (hP : P < 9223372036854775808) (q p : Nat → Nat) (c v : Nat → Int) (d : Nat → ByteArray) (a : Nat → Option Addr) (z : Nat → Nat) (hqp : ∀ k, k < 4 → q k < 9223372036854775808 ∧ p k < 9223372036854775808) (r : Nat → List VerV) (sl : Nat → Value) (w : World) (hb : b < w.heap.size)
    (hsl : ∀ k, k < 32 → ∃ ao cap, sl k = .slice ao (r k).length cap) (hlen : ∀ k, k < 32 → (r k).length ≤ 100 ∧ ∀ v ∈ r k, v.data.size ≤ 64) (hI : ∀ k, k < 32 → w.cell? ⟨b, 26 + k, none⟩ = some (sl k)) (hV : ∀ k, k < 32 → Vers w w.heap.size (sl k) (r k))
    (HP : Hid (∀ u, Below w.heap.size w u → u.cell? ⟨b, 1, none⟩ = some (.int .i64 P)))
    (HC : Hid (∀ u, Below w.heap.size w u → u.rangeAt b 2 ([.int .i64 (q 0 : Nat), .int .i64 (c 0), .int .i64 (v 0), .string (d 0), .slice (a 0) 0 (z 0), .int .i64 (p 0 : Nat), .int .i64 (q 1 : Nat), .int .i64 (c 1), .int .i64 (v 1), .string (d 1), .slice (a 1) 0 (z 1), .int .i64 (p 1 : Nat), .int .i64 (q 2 : Nat), .int .i64 (c 2), .int .i64 (v 2), .string (d 2), .slice (a 2) 0 (z 2), .int .i64 (p 2 : Nat), .int .i64 (q 3 : Nat), .int .i64 (c 3), .int .i64 (v 3), .string (d 3), .slice (a 3) 0 (z 3), .int .i64 (p 3 : Nat)]))) (bs : List UInt8) (HBS : Hid (bs = Lib.uvarint P ++ clsB q p 4 ++ (idsV r 32).flatMap (resB r))) :
    CallsIn Fence.wide 5 Try.prog 20 #[.pointer (some ⟨b, 0, none⟩)] w (BytesAre bs w) := by
  have HI0 := Lib.hid hI
  have HS := Lib.hid hsl
  have HL := Lib.hid hlen
  have HV := Lib.hid hV
  have HQ := Lib.hid hqp
  have HX := Lib.hid (idx_last q p c v d a z)
  clear hI hsl hlen hV hqp
  refine callsIn_of_wp_marks Try.func20 rfl trivial ?_ rfl
  simp only [Try.ntmps20, List.size_toArray, List.length_cons, List.length_nil, Nat.reduceAdd, Nat.reduceSub, Array.replicate_succ, Array.replicate_zero, List.push_toArray, List.append_toArray, List.nil_append, List.cons_append]
  have HA : Hid (Below w.heap.size w (w.alloc (.cells #[.slice none 0 0] 74))) := (Below.refl _ w).alloc (Nat.le_refl _) _
  have HW0 : Hid (Wrt (w.alloc (.cells #[.slice none 0 0] 74)) w.heap.size []) := Wrt.fresh w 74
  have cp := HP.out _ HA.out
  have HT0 := Lib.hid (sputint_any w.heap.size P hP [] _ HW0.out (by simp))
  gi_wp2_with fail
  refine ⟨trivial, (callsIn_wide.2 HT0.out).mono ?_⟩
  rintro e u0 ⟨rfl, W0, B0, K0⟩
  have hl0 : (Lib.uvarint P).length ≤ 10 := Lib.uvarint_length64 (by omega)
  rw [List.nil_append] at W0
  obtain ⟨y0, hy0⟩ : ∃ y, y = Lib.uvarint P := ⟨_, rfl⟩
  rw [← hy0] at W0 hl0
  have HY0 := Lib.hid hy0
  have HW1 := Lib.hid W0
  have HB1 : Hid (Below w.heap.size w u0) := HA.out.trans B0
  have HR := Lib.hid (HC.out _ HB1.out)
  clear W0 B0 K0 hy0 cp HT0 HA HW0
  gi_wp2_with (with_reducible refine wpListIn_load_mid rfl 64 (.tmp 17) rfl b 2 rfl ([.int .i64 (q 0 : Nat), .int .i64 (c 0), .int .i64 (v 0), .string (d 0), .slice (a 0) 0 (z 0), .int .i64 (p 0 : Nat), .int .i64 (q 1 : Nat), .int .i64 (c 1), .int .i64 (v 1), .string (d 1), .slice (a 1) 0 (z 1), .int .i64 (p 1 : Nat), .int .i64 (q 2 : Nat), .int .i64 (c 2), .int .i64 (v 2), .string (d 2), .slice (a 2) 0 (z 2), .int .i64 (p 2 : Nat), .int .i64 (q 3 : Nat), .int .i64 (c 3), .int .i64 (v 3), .string (d 3), .slice (a 3) 0 (z 3), .int .i64 (p 3 : Nat)]) _ HR.out Try.underlying64 rfl (by kernel_rfl) ?_)
  gi_loopw [19] (fun vi wr => ∃ k : Nat, k ≤ 4 ∧ vi = .int .i64 k ∧ Wrt wr w.heap.size (y0 ++ clsB q p k) ∧ Below w.heap.size w wr) (fun vi _ => 4 - (intOf vi).toNat)
  case atStart => exact ⟨0, by omega, rfl, by simpa [clsB] using HW1.out, HB1.out⟩
  case round =>
    obtain ⟨k, hk, rfl, hw, hbw⟩ := hrel
    have HWk := Lib.hid hw
    have HBk := Lib.hid hbw
    have hlt0 := hw.lt
    clear hw hbw
    have hyl : (y0 ++ clsB q p k).length ≤ 90 := by
      have h1 := clsB_len q p HQ.out k hk
      have h2 : k * 20 ≤ 80 := by omega
      rw [List.length_append]
      omega
    generalize hzs : y0 ++ clsB q p k = zs at HWk hyl
    have HZ := Lib.hid hzs
    clear hzs
    by_cases hlt : k < 4
    · have hx := HX.out k hlt
      obtain ⟨hq, hp⟩ := HQ.out k hlt
      have i0 : (0 : Int) ≤ (k : Int) := by omega
      have i1 : (k : Int) < 4 := by omega
      have XB := Lib.hid (heap_alloc_new wr (.cells #[.int .i64 (q k : Nat), .int .i64 (c k), .int .i64 (v k), .string (d k), .slice (a k) 0 (z k), .int .i64 (p k : Nat)] 63))
      have HT1 := Lib.hid (sputint_any w.heap.size (q k) hq zs (wr.alloc (.cells #[.int .i64 (q k : Nat), .int .i64 (c k), .int .i64 (v k), .string (d k), .slice (a k) 0 (z k), .int .i64 (p k : Nat)] 63)) (HWk.out.alloc _) (by omega))
      gi_wp2_with fail
      refine ⟨trivial, (callsIn_wide.2 HT1.out).mono ?_⟩
      rintro e u1 ⟨rfl, W1, B1, K1⟩
      have hX1 : u1.heap[wr.heap.size]? = some (.cells #[.int .i64 (q k : Nat), .int .i64 (c k), .int .i64 (v k), .string (d k), .slice (a k) 0 (z k), .int .i64 (p k : Nat)] 63 (0, 0)) := K1.same _ _ XB.out (by omega) (by intro cs fr h; injection h with _ h2 _; exact absurd h2 (by decide))
      have x5 : u1.cell? ⟨wr.heap.size, 5, none⟩ = some (.int .i64 (p k : Nat)) := cell_of_row _ _ 5 _ _ _ hX1
      have hl1 : (zs ++ Lib.uvarint (q k)).length ≤ 100 := by
        have h1 := Lib.uvarint_length64 (x := q k) (by omega)
        rw [List.length_append]
        omega
      have HB2 : Hid (Below w.heap.size w u1) := HBk.out.trans (((Below.refl _ _).alloc (by omega) _).trans B1)
      have HW2 := Lib.hid W1
      have HT2 := Lib.hid (sputint_any w.heap.size (p k) hp (zs ++ Lib.uvarint (q k)) u1 W1 (by omega))
      clear W1 B1 K1 hX1 hx HT1 XB
      gi_wp2_with fail
      refine ⟨trivial, (callsIn_wide.2 HT2.out).mono ?_⟩
      rintro e u2 ⟨rfl, W2, B2, K2⟩
      have HB3 : Hid (Below w.heap.size w u2) := HB2.out.trans B2
      have HW3 := Lib.hid W2
      clear W2 B2 K2 x5 HT2 HW2 HB2
      gi_wp2
      go_roundw
      case rel =>
        refine ⟨k + 1, by omega, by go_num, ?_, HB3.out⟩
        have h := HW3.out
        rw [← HZ.out] at h
        rw [clsB_succ]
        simpa using h
      case measure => simp [intOf]; omega
    · obtain rfl : k = 4 := by omega
      obtain ⟨AG, hAG⟩ : ∃ x : Value, x = .agg #[.int .i64 (q 0 : Nat), .int .i64 (c 0), .int .i64 (v 0), .string (d 0), .slice (a 0) 0 (z 0), .int .i64 (p 0 : Nat), .int .i64 (q 1 : Nat), .int .i64 (c 1), .int .i64 (v 1), .string (d 1), .slice (a 1) 0 (z 1), .int .i64 (p 1 : Nat), .int .i64 (q 2 : Nat), .int .i64 (c 2), .int .i64 (v 2), .string (d 2), .slice (a 2) 0 (z 2), .int .i64 (p 2 : Nat), .int .i64 (q 3 : Nat), .int .i64 (c 3), .int .i64 (v 3), .string (d 3), .slice (a 3) 0 (z 3), .int .i64 (p 3 : Nat)] := ⟨_, rfl⟩
      rw [← hAG]
      clear hAG
      gi_wp2_with fail
      refine ⟨trivial, (inorder_in Fence.wide 4 trivial rfl _ _).mono ?_⟩
      rintro e w' ⟨rfl, rfl⟩
      gi_wp2
      obtain ⟨w3, hw3⟩ : ∃ w3, w3 = wr.alloc (.cells #[.pointer (some ⟨b, 26, none⟩)] 90) := ⟨_, rfl⟩
      have hB3 : Below wr.heap.size wr w3 := by rw [hw3]; exact (Below.refl _ _).alloc (Nat.le_refl _) _
      have hs3 : w3.heap.size = wr.heap.size + 1 := by rw [hw3]; simp
      have hN3 : w3.cell? ⟨wr.heap.size, 0, none⟩ = some (.pointer (some ⟨b, 26, none⟩)) := by
        rw [hw3]; exact cell_of_one (heap_alloc_new wr _)
      have hw3w : Wrt w3 w.heap.size zs := by rw [hw3]; exact HWk.out.alloc _
      have hb3 : Below w.heap.size w w3 := HBk.out.trans (hB3.mono HBk.out.size)
      rw [← hw3]
      clear hw3
      have HD := Lib.hid hs3
      clear hs3
      refine wpIn_rangeFunc_ownF rfl (by decide) (gf := 58) (lb := #[.pointer (some ⟨wr.heap.size, 0, none⟩)]) rfl trivial (enters_of Try.func58 (by kernel_rfl) rfl)
        (inorder_stops Fence.wide 4 trivial rfl (by decide) wr.heap.size w.heap.size b r sl HS.out (fun k hk => by have := (HL.out k hk).1; omega) w3 (by rw [HD.out]; omega) (by rw [HD.out]; have := HBk.out.size; omega) hb hN3 (fun k hk => (hb3.cell (p := ⟨b, 26 + k, none⟩) hb).trans (HI0.out k hk)))
        belowK_t (belowK_b (by rw [HD.out]; have := HBk.out.size; omega)) (Below.refl _ _) (fun _ => rfl)
        (fun pre W => Wrt W w.heap.size (zs ++ entsB r pre) ∧ Below w.heap.size w W)
        (fun _ _ _ => False)
        (OwnFrom.and (Own.from (wrt_own w.heap.size (fun pre : List Ent => zs ++ entsB r pre)) _) (ownFrom_below (Nat.le_refl _) (by rw [HD.out]; have := HBk.out.size; omega)))
        (fun _ _ _ _ _ hs _ _ => hs)
        ⟨by simpa [entsB] using hw3w, hb3⟩
        (fun x => { tmps := #[.pointer (some ⟨b, 0, none⟩), undef, .slice none 0 0, .pointer (some ⟨w.heap.size, 0, none⟩), undef, u5, .int .i64 (x.i : Int), sl x.i, .pointer (some ⟨b, 0, none⟩), .bool false, .pointer (some ⟨b, 0, none⟩), .pointer (some ⟨b, 0, none⟩), .pointer (some ⟨b, 1, none⟩), .int .i64 P, .tuple #[],
            .pointer (some ⟨b, 0, none⟩), .pointer (some ⟨b, 0, none⟩), .pointer (some ⟨b, 2, none⟩), AG, .int .i64 4, .bool false, u21, u22, u23, u24, u25, u26, u27, u28, .pointer (some ⟨b, 0, none⟩), .pointer (some ⟨b, 0, none⟩), .pointer (some ⟨b, 26, none⟩),
            .func (.func 58) #[] #[.pointer (some ⟨wr.heap.size, 0, none⟩)], .int .i64 (x.i : Int), sl x.i, undef, undef, undef, undef, undef], defers := [] }) ?assign ?body ?done ?stop
      case assign =>
        intro l x W K hK
        simp only [encS]
        gi_wp2
        exact hK
      case body =>
        rintro l pre ⟨i, hi32⟩ W ⟨hw, hB⟩ hlt
        have hl32 : pre.length < 32 := hlt
        have j0 : (0 : Int) ≤ (i : Int) := by omega
        have j1 : (i : Int) < 32 := by omega
        have hen := entsB_len r HL.out pre
        have hln : (zs ++ entsB r pre).length ≤ 300000 := by
          have : pre.length * 7520 ≤ 32 * 7520 := Nat.mul_le_mul_right _ (by omega)
          rw [List.length_append]; omega
        have hri := HL.out i hi32
        have HVi : Vers W w.heap.size (sl i) (r i) := (HV.out i hi32).keep hB
        have HT1 := Lib.hid (sputint_any w.heap.size i (by omega) (zs ++ entsB r pre) W hw (by omega))
        have HWW := Lib.hid hw
        have HBB := Lib.hid hB
        have HVV := Lib.hid HVi
        have HRI := Lib.hid hri
        have HLN := Lib.hid hln
        clear hlt hen hw hB HVi hri hln
        dsimp only
        gi_wp2_with fail
        refine ⟨trivial, (CallsIn.inRound l (callsIn_wide.2 HT1.out)).mono ?_⟩
        rintro e u1 ⟨rfl, W1, B1, K1⟩
        have hul := Lib.uvarint_length64 (x := i) (by omega)
        have HT2 := Lib.hid (putvers_any w.heap.size (sl i) (r i) (r i).length (zs ++ entsB r pre ++ Lib.uvarint i) u1 rfl W1 (HVV.out.keep B1) HRI.out.1 HRI.out.2 (by have := HLN.out; rw [List.length_append]; omega))
        have HK1 := Lib.hid (wrt_others HWW.out K1)
        have HB1 := Lib.hid B1
        have HW1 := Lib.hid W1
        clear W1 B1 K1 hul
        gi_wp2_with fail
        refine ⟨trivial, (CallsIn.inRound l (callsIn_wide.2 HT2.out)).mono ?_⟩
        rintro e u2 ⟨rfl, W2, B2, K2⟩
        have HK2 := Lib.hid (HK1.out.trans (wrt_others HW1.out K2))
        have HB2 := Lib.hid (HB1.out.trans B2)
        have HW2 := Lib.hid W2
        clear W2 B2 K2
        gi_wp2
        refine ⟨HK2.out, HB2.out, ?_, HBB.out.trans HB2.out⟩
        have h := HW2.out
        rw [entsB_snoc]
        simpa [resB] using h
      case done =>
        rintro D ys W hD rfl ⟨hw, hB⟩ hK
        rw [entsB_come r 32 (Nat.le_refl _), ← HZ.out, HY0.out, ← HBS.out] at hw
        have hDl : D < W.heap.size := (Array.getElem?_eq_some_iff.1 hK).1
        have hbl : bs.length ≤ 300000 := by
          have h1 := entsB_len r HL.out (comeS r 32)
          have h2 := comeS_len r 32
          have h3 : (comeS r 32).length * 7520 ≤ 32 * 7520 := Nat.mul_le_mul_right _ h2
          rw [entsB_come r 32 (Nat.le_refl _)] at h1
          rw [HBS.out, ← HY0.out, HZ.out, List.length_append]
          omega
        have HT := Lib.hid (wbytes_any w.heap.size bs W hw (by omega))
        have HBB := Lib.hid hB
        have HKK := Lib.hid hK
        clear hw hB hK hbl
        gi_wp2_with fail
        refine ⟨trivial, (callsIn_wide.2 HT.out).mono ?_⟩
        rintro e u1 ⟨v', rfl, O1, B1⟩
        have hK1 : u1.heap[D]? = some (.deferred (some [])) := (B1.block D hDl).trans HKK.out
        have HO := Lib.hid (own_low O1 HBB.out.size)
        have HB1 := Lib.hid (HBB.out.trans (B1.mono HBB.out.size))
        clear O1 B1
        gi_wp2
        refine ⟨by simp, .inl ⟨_, _, rfl, run_takeDeferred hK1, ?_⟩⟩
        exact ⟨_, results_tmp rfl _ _ _, _, rfl, ownsRow_putObj HO.out _ hK1 rfl, HB1.out.trans (belowK_b (w := w) (Nat.le_refl _) u1 D _ _ (by rw [HD.out] at hD; have := HBk.out.size; omega) hK1 rfl rfl)⟩
      case stop =>
        rintro D c pre W _ _ h _
        exact h.elim
end Go.Proofs.Yticokpaegadbbaa
