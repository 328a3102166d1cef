/-
  Two requests have the same bytes just if they are the same; two chains likewise (2.2, 2.3), as ItemApart says: for any two requests, any two chains (at most 8 nodes). No condition.
-/
import Derived.Test.YtocedkdgmhegeaaItemArgs
import Derived.Test.YtocedkdgmhegeaaItemRPut
import Derived.Test.YtocedkdgmhegeaaRegion
import Derived.Deep.QuietTactic
import Derived.BigQuiet
namespace Go.Proofs.Ytocedkdgmhegeaa.ItemApart
open Go.ChangeShapes Go.WideShapes Go.ChangeAt Go.RowKit

/-- The four arguments' blocks stand; nothing below has turned. -/
structure Q4 (w v : World) (a1 a2 a3 a4 a5 : Int) (a6 : ByteArray) (b1 b2 b3 b4 b5 : Int) (b6 : ByteArray) (p1 : Int) (c1 : Value) (p2 : Int) (c2 : Value) : Prop where
  qa : ReqB v w.heap.size a1 a2 a3 a4 a5 a6
  qb : ReqB v (w.heap.size + 1) b1 b2 b3 b4 b5 b6
  qc : ChB v (w.heap.size + 1 + 1) p1 c1
  qd : ChB v (w.heap.size + 1 + 1 + 1) p2 c2
  bel : Below w.heap.size w v

theorem Q4.step {w u v : World} {a1 a2 a3 a4 a5 : Int} {a6 : ByteArray} {b1 b2 b3 b4 b5 : Int} {b6 : ByteArray} {p1 : Int} {c1 : Value} {p2 : Int} {c2 : Value} (h : Q4 w u a1 a2 a3 a4 a5 a6 b1 b2 b3 b4 b5 b6 p1 c1 p2 c2) (hb : Below u.heap.size u v) :
    Q4 w v a1 a2 a3 a4 a5 a6 b1 b2 b3 b4 b5 b6 p1 c1 p2 c2 :=
  ⟨h.qa.keep hb h.qa.lt, h.qb.keep hb h.qb.lt, h.qc.keep hb h.qc.lt, h.qd.keep hb h.qd.lt, h.bel.trans (hb.mono h.bel.size)⟩

theorem Q4.start (w : World) (a1 a2 a3 a4 a5 : Int) (a6 : ByteArray) (b1 b2 b3 b4 b5 : Int) (b6 : ByteArray) (p1 : Int) (c1 : Value) (p2 : Int) (c2 : Value) (e f : TypeId) :
    Q4 w ((((w.alloc (.cells #[.int .i64 a1, .int .i64 a2, .int .i64 a3, .int .i64 a4, .int .i64 a5, .string a6] e)).alloc (.cells #[.int .i64 b1, .int .i64 b2, .int .i64 b3, .int .i64 b4, .int .i64 b5, .string b6] e)).alloc (.cells #[.int .i64 p1, c1] f)).alloc (.cells #[.int .i64 p2, c2] f)) a1 a2 a3 a4 a5 a6 b1 b2 b3 b4 b5 b6 p1 c1 p2 c2 := by
  generalize h1 : w.alloc (.cells #[.int .i64 a1, .int .i64 a2, .int .i64 a3, .int .i64 a4, .int .i64 a5, .string a6] e) = w1
  have s1 : w1.heap.size = w.heap.size + 1 := by rw [← h1]; simp
  have k1 : ReqB w1 w.heap.size a1 a2 a3 a4 a5 a6 := by rw [← h1]; exact ReqB.fresh w _ _ _ _ _ _ e
  have l1 : Below w.heap.size w w1 := by rw [← h1]; exact (Below.refl _ _).alloc (Nat.le_refl _) _
  generalize h2 : w1.alloc (.cells #[.int .i64 b1, .int .i64 b2, .int .i64 b3, .int .i64 b4, .int .i64 b5, .string b6] e) = w2
  have s2 : w2.heap.size = w.heap.size + 1 + 1 := by rw [← h2, ← s1]; simp
  have k2 : ReqB w2 (w.heap.size + 1) b1 b2 b3 b4 b5 b6 := by rw [← h2, ← s1]; exact ReqB.fresh w1 _ _ _ _ _ _ e
  have l2 : Below w1.heap.size w1 w2 := by rw [← h2]; exact (Below.refl _ _).alloc (Nat.le_refl _) _
  generalize h3 : w2.alloc (.cells #[.int .i64 p1, c1] f) = w3
  have s3 : w3.heap.size = w.heap.size + 1 + 1 + 1 := by rw [← h3, ← s2]; simp
  have k3 : ChB w3 (w.heap.size + 1 + 1) p1 c1 := by rw [← h3, ← s2]; exact ChB.fresh w2 _ _ f
  have l3 : Below w2.heap.size w2 w3 := by rw [← h3]; exact (Below.refl _ _).alloc (Nat.le_refl _) _
  have k4 : ChB (w3.alloc (.cells #[.int .i64 p2, c2] f)) (w.heap.size + 1 + 1 + 1) p2 c2 := by rw [← s3]; exact ChB.fresh w3 _ _ f
  have l4 : Below w3.heap.size w3 (w3.alloc (.cells #[.int .i64 p2, c2] f)) := (Below.refl _ _).alloc (Nat.le_refl _) _
  refine ⟨((k1.keep l2 (by omega)).keep l3 (by omega)).keep l4 (by omega), (k2.keep l3 (by omega)).keep l4 (by omega), k3.keep l4 (by omega), k4, ?_⟩
  exact ((l1.trans (l2.mono (by omega))).trans (l3.mono (by omega))).trans (l4.mono (by omega))

theorem txt_eq (a b : List UInt8) : ((txt a).toList == (txt b).toList) = decide (a = b) := by
  have h1 : (txt a).toList = a := ByteArray.toList_mk _
  have h2 : (txt b).toList = b := ByteArray.toList_mk _
  rw [h1, h2, Bool.eq_iff_iff]
  simp

/-- A request that may be, as numbers. -/
def gotOf (q : ReqV) : Got := ⟨q.client.toNat, q.seq.toNat, q.kind.toNat, q.id.toNat, q.mtch.toNat, q.data.data.toList⟩
theorem gotOf_req (q : ReqV) (h : q.may) : (gotOf q).req = q := by
  obtain ⟨c1, c2, c3, c4, c5, c6⟩ := q
  simp only [ReqV.may] at h
  simp only [gotOf, Got.req]
  congr 1 <;> omega
theorem gotOf_inj {q r : ReqV} (hq : q.may) (hr : r.may) (h : gotOf q = gotOf r) : q = r := by rw [← gotOf_req q hq, ← gotOf_req r hr, h]

theorem put_any (c1 c2 c3 c4 c5 : Int) (c6 : ByteArray) (hm : ReqV.may ⟨c1, c2, c3, c4, c5, c6⟩) (u : World) :
    Calls Try.prog 12 #[.agg #[.int .i64 c1, .int .i64 c2, .int .i64 c3, .int .i64 c4, .int .i64 c5, .string c6]] u fun e w' => ∃ v, e = .returned (.tuple #[v, .int .i64 0]) ∧
      w'.ownsRow u.heap.size 5 1 v (gotOf ⟨c1, c2, c3, c4, c5, c6⟩).bytes.length (Lib.byteCells (gotOf ⟨c1, c2, c3, c4, c5, c6⟩).bytes) ∧ Below u.heap.size u w' := by
  have hm' := hm
  simp only [ReqV.may] at hm'
  obtain ⟨n1, rfl⟩ : ∃ n : Nat, c1 = n := ⟨c1.toNat, by omega⟩
  obtain ⟨n2, rfl⟩ : ∃ n : Nat, c2 = n := ⟨c2.toNat, by omega⟩
  obtain ⟨n3, rfl⟩ : ∃ n : Nat, c3 = n := ⟨c3.toNat, by omega⟩
  obtain ⟨n4, rfl⟩ : ∃ n : Nat, c4 = n := ⟨c4.toNat, by omega⟩
  obtain ⟨n5, rfl⟩ : ∃ n : Nat, c5 = n := ⟨c5.toNat, by omega⟩
  exact putreq_yes n1 n2 n3 n4 n5 c6 hm u

theorem req_eq (a1 a2 a3 a4 a5 : Int) (a6 : ByteArray) (b1 b2 b3 b4 b5 : Int) (b6 : ByteArray) (ha : ReqV.may ⟨a1, a2, a3, a4, a5, a6⟩) (hb : ReqV.may ⟨b1, b2, b3, b4, b5, b6⟩) (u : World) :
    (binOp .eql 23 (.agg #[.int .i64 a1, .int .i64 a2, .int .i64 a3, .int .i64 a4, .int .i64 a5, .string a6]) (.agg #[.int .i64 b1, .int .i64 b2, .int .i64 b3, .int .i64 b4, .int .i64 b5, .string b6])).run Try.prog u =
      .ok (.bool (decide ((gotOf ⟨a1, a2, a3, a4, a5, a6⟩).bytes = (gotOf ⟨b1, b2, b3, b4, b5, b6⟩).bytes))) u := by
  rw [run_eq_req]
  congr 2
  rw [Bool.eq_iff_iff, decide_eq_true_iff]
  simp only [Bool.and_eq_true, beq_iff_eq]
  constructor
  · rintro ⟨⟨⟨⟨⟨rfl, rfl⟩, rfl⟩, rfl⟩, rfl⟩, h⟩
    rw [ByteArray.toList_eq, ByteArray.toList_eq] at h
    have : a6 = b6 := by
      apply ByteArray.ext
      exact Array.toList_inj.1 h
    rw [this]
  · intro h
    have hg := req_apart (gotOf ⟨a1, a2, a3, a4, a5, a6⟩) (gotOf ⟨b1, b2, b3, b4, b5, b6⟩) (by rw [gotOf_req _ ha]; exact ha) (by rw [gotOf_req _ hb]; exact hb) h
    have := gotOf_inj ha hb hg
    simp only [ReqV.mk.injEq] at this
    obtain ⟨rfl, rfl, rfl, rfl, rfl, rfl⟩ := this
    simp

set_option maxHeartbeats 2000000 in
set_option maxRecDepth 100000 in
theorem many1 (a1 a2 a3 a4 a5 : Int) (a6 : ByteArray) (b1 b2 b3 b4 b5 : Int) (b6 : ByteArray) (p1 p2 : Int) (ao bo : Option Addr) (m n ca cb : Nat) (w : World) (hda : a6.size ≤ 9223372036854775807) (_ : b6.size ≤ 9223372036854775807) (hfa : ¬ a6.size ≤ 300) :
    Calls Try.prog 7 #[.agg #[.int .i64 a1, .int .i64 a2, .int .i64 a3, .int .i64 a4, .int .i64 a5, .string a6], .agg #[.int .i64 b1, .int .i64 b2, .int .i64 b3, .int .i64 b4, .int .i64 b5, .string b6], .agg #[.int .i64 p1, .slice ao m ca], .agg #[.int .i64 p2, .slice bo n cb]] w fun e w' => e = .returned (.bool true) ∧ Below w.heap.size w w' := by
  have HT := Lib.hid (fun u => told2_any u)
  have HFA := Lib.hid (fun u => few_any a1 a2 a3 a4 a5 a6 hda false (show _ = _ from (decide_eq_false hfa).symm) u)
  have G0 := Lib.hid (Q4.start w a1 a2 a3 a4 a5 a6 b1 b2 b3 b4 b5 b6 p1 (.slice ao m ca) p2 (.slice bo n cb) 23 38)
  clear hfa
  go_enter Try.func7, Try.ntmps7
  go_wp2_with fail
  refine (HFA.out _).mono ?_
  rintro e w1 ⟨rfl, B1⟩
  have G1 := Lib.hid (G0.out.step B1)
  clear B1
  go_wp2_with fail
  refine (HT.out _).mono ?_
  rintro e wt ⟨rfl, BT⟩
  have GT := Lib.hid (G1.out.step BT)
  clear BT
  go_wp2
  go_returns
  exact ⟨rfl, GT.out.bel⟩

set_option maxHeartbeats 2000000 in
set_option maxRecDepth 100000 in
theorem many2 (a1 a2 a3 a4 a5 : Int) (a6 : ByteArray) (b1 b2 b3 b4 b5 : Int) (b6 : ByteArray) (p1 p2 : Int) (ao bo : Option Addr) (m n ca cb : Nat) (w : World) (hda : a6.size ≤ 9223372036854775807) (hdb : b6.size ≤ 9223372036854775807) (hfa : a6.size ≤ 300) (hfb : ¬ b6.size ≤ 300) :
    Calls Try.prog 7 #[.agg #[.int .i64 a1, .int .i64 a2, .int .i64 a3, .int .i64 a4, .int .i64 a5, .string a6], .agg #[.int .i64 b1, .int .i64 b2, .int .i64 b3, .int .i64 b4, .int .i64 b5, .string b6], .agg #[.int .i64 p1, .slice ao m ca], .agg #[.int .i64 p2, .slice bo n cb]] w fun e w' => e = .returned (.bool true) ∧ Below w.heap.size w w' := by
  have HT := Lib.hid (fun u => told2_any u)
  have HFA := Lib.hid (fun u => few_any a1 a2 a3 a4 a5 a6 hda true (show _ = _ from (decide_eq_true hfa).symm) u)
  have HFB := Lib.hid (fun u => few_any b1 b2 b3 b4 b5 b6 hdb false (show _ = _ from (decide_eq_false hfb).symm) u)
  have G0 := Lib.hid (Q4.start w a1 a2 a3 a4 a5 a6 b1 b2 b3 b4 b5 b6 p1 (.slice ao m ca) p2 (.slice bo n cb) 23 38)
  clear hfa hfb
  go_enter Try.func7, Try.ntmps7
  go_wp2_with fail
  refine (HFA.out _).mono ?_
  rintro e w1 ⟨rfl, B1⟩
  have G1 := Lib.hid (G0.out.step B1)
  clear B1
  obtain ⟨e0, e1, e2, e3, e4, e5⟩ := G1.out.qb.cells
  go_wp2_with fail
  refine (HFB.out _).mono ?_
  rintro e w2 ⟨rfl, B2⟩
  have G2 := Lib.hid (G1.out.step B2)
  clear B2 e0 e1 e2 e3 e4 e5
  go_wp2_with fail
  refine (HT.out _).mono ?_
  rintro e wt ⟨rfl, BT⟩
  have GT := Lib.hid (G2.out.step BT)
  clear BT
  go_wp2
  go_returns
  exact ⟨rfl, GT.out.bel⟩

set_option maxHeartbeats 2000000 in
set_option maxRecDepth 100000 in
theorem many3 (a1 a2 a3 a4 a5 : Int) (a6 : ByteArray) (b1 b2 b3 b4 b5 : Int) (b6 : ByteArray) (p1 p2 : Int) (ao bo : Option Addr) (m n ca cb : Nat) (w : World) (hda : a6.size ≤ 9223372036854775807) (hdb : b6.size ≤ 9223372036854775807) (hfa : a6.size ≤ 300) (hfb : b6.size ≤ 300) (hm : 8 < m) :
    Calls Try.prog 7 #[.agg #[.int .i64 a1, .int .i64 a2, .int .i64 a3, .int .i64 a4, .int .i64 a5, .string a6], .agg #[.int .i64 b1, .int .i64 b2, .int .i64 b3, .int .i64 b4, .int .i64 b5, .string b6], .agg #[.int .i64 p1, .slice ao m ca], .agg #[.int .i64 p2, .slice bo n cb]] w fun e w' => e = .returned (.bool true) ∧ Below w.heap.size w w' := by
  have HT := Lib.hid (fun u => told2_any u)
  have HFA := Lib.hid (fun u => few_any a1 a2 a3 a4 a5 a6 hda true (show _ = _ from (decide_eq_true hfa).symm) u)
  have HFB := Lib.hid (fun u => few_any b1 b2 b3 b4 b5 b6 hdb true (show _ = _ from (decide_eq_true hfb).symm) u)
  have G0 := Lib.hid (Q4.start w a1 a2 a3 a4 a5 a6 b1 b2 b3 b4 b5 b6 p1 (.slice ao m ca) p2 (.slice bo n cb) 23 38)
  clear hfa hfb
  go_enter Try.func7, Try.ntmps7
  go_wp2_with fail
  refine (HFA.out _).mono ?_
  rintro e w1 ⟨rfl, B1⟩
  have G1 := Lib.hid (G0.out.step B1)
  clear B1
  obtain ⟨e0, e1, e2, e3, e4, e5⟩ := G1.out.qb.cells
  go_wp2_with fail
  refine (HFB.out _).mono ?_
  rintro e w2 ⟨rfl, B2⟩
  have G2 := Lib.hid (G1.out.step B2)
  clear B2 e0 e1 e2 e3 e4 e5
  obtain ⟨x0, x1⟩ := G2.out.qc.cells
  obtain ⟨y0, y1⟩ := G2.out.qd.cells
  go_wp2_with fail
  refine (HT.out _).mono ?_
  rintro e wt ⟨rfl, BT⟩
  have GT := Lib.hid (G2.out.step BT)
  clear BT
  go_wp2
  go_returns
  exact ⟨rfl, GT.out.bel⟩

set_option maxHeartbeats 2000000 in
set_option maxRecDepth 100000 in
theorem many4 (a1 a2 a3 a4 a5 : Int) (a6 : ByteArray) (b1 b2 b3 b4 b5 : Int) (b6 : ByteArray) (p1 p2 : Int) (ao bo : Option Addr) (m n ca cb : Nat) (w : World) (hda : a6.size ≤ 9223372036854775807) (hdb : b6.size ≤ 9223372036854775807) (hfa : a6.size ≤ 300) (hfb : b6.size ≤ 300) (hm : m ≤ 8) (hn : 8 < n) :
    Calls Try.prog 7 #[.agg #[.int .i64 a1, .int .i64 a2, .int .i64 a3, .int .i64 a4, .int .i64 a5, .string a6], .agg #[.int .i64 b1, .int .i64 b2, .int .i64 b3, .int .i64 b4, .int .i64 b5, .string b6], .agg #[.int .i64 p1, .slice ao m ca], .agg #[.int .i64 p2, .slice bo n cb]] w fun e w' => e = .returned (.bool true) ∧ Below w.heap.size w w' := by
  have HT := Lib.hid (fun u => told2_any u)
  have HFA := Lib.hid (fun u => few_any a1 a2 a3 a4 a5 a6 hda true (show _ = _ from (decide_eq_true hfa).symm) u)
  have HFB := Lib.hid (fun u => few_any b1 b2 b3 b4 b5 b6 hdb true (show _ = _ from (decide_eq_true hfb).symm) u)
  have G0 := Lib.hid (Q4.start w a1 a2 a3 a4 a5 a6 b1 b2 b3 b4 b5 b6 p1 (.slice ao m ca) p2 (.slice bo n cb) 23 38)
  clear hfa hfb
  go_enter Try.func7, Try.ntmps7
  go_wp2_with fail
  refine (HFA.out _).mono ?_
  rintro e w1 ⟨rfl, B1⟩
  have G1 := Lib.hid (G0.out.step B1)
  clear B1
  obtain ⟨e0, e1, e2, e3, e4, e5⟩ := G1.out.qb.cells
  go_wp2_with fail
  refine (HFB.out _).mono ?_
  rintro e w2 ⟨rfl, B2⟩
  have G2 := Lib.hid (G1.out.step B2)
  clear B2 e0 e1 e2 e3 e4 e5
  obtain ⟨x0, x1⟩ := G2.out.qc.cells
  obtain ⟨y0, y1⟩ := G2.out.qd.cells
  go_wp2_with fail
  refine (HT.out _).mono ?_
  rintro e wt ⟨rfl, BT⟩
  have GT := Lib.hid (G2.out.step BT)
  clear BT
  go_wp2
  go_returns
  exact ⟨rfl, GT.out.bel⟩

set_option maxHeartbeats 2000000 in
set_option maxRecDepth 100000 in
theorem go_yyyy (a1 a2 a3 a4 a5 : Int) (a6 : ByteArray) (b1 b2 b3 b4 b5 : Int) (b6 : ByteArray) (p1 p2 : Int) (ao bo : Option Addr) (m n ca cb : Nat) (w : World) (hda : a6.size ≤ 9223372036854775807) (hdb : b6.size ≤ 9223372036854775807) (hfa : a6.size ≤ 300) (hfb : b6.size ≤ 300) (hm8 : m ≤ 8) (hn8 : n ≤ 8) (L1 L2 : List Int) (hL1 : L1.length = m) (hL2 : L2.length = n) (hI1 : Ints w w.heap.size (.slice ao m ca) L1) (hI2 : Ints w w.heap.size (.slice bo n cb) L2) (hma : ReqV.may ⟨a1, a2, a3, a4, a5, a6⟩) (hmb : ReqV.may ⟨b1, b2, b3, b4, b5, b6⟩) (hmc : ChainV.may ⟨p1, L1⟩) (hmd : ChainV.may ⟨p2, L2⟩) :
    Calls Try.prog 7 #[.agg #[.int .i64 a1, .int .i64 a2, .int .i64 a3, .int .i64 a4, .int .i64 a5, .string a6], .agg #[.int .i64 b1, .int .i64 b2, .int .i64 b3, .int .i64 b4, .int .i64 b5, .string b6], .agg #[.int .i64 p1, .slice ao m ca], .agg #[.int .i64 p2, .slice bo n cb]] w fun e w' => e = .returned (.bool true) ∧ Below w.heap.size w w' := by
  have HT := Lib.hid (fun u => told2_any u)
  have HFA := Lib.hid (fun u => few_any a1 a2 a3 a4 a5 a6 hda true (show _ = _ from (decide_eq_true hfa).symm) u)
  have HFB := Lib.hid (fun u => few_any b1 b2 b3 b4 b5 b6 hdb true (show _ = _ from (decide_eq_true hfb).symm) u)
  have HPA := Lib.hid (fun u => put_any a1 a2 a3 a4 a5 a6 hma u)
  have HPB := Lib.hid (fun u => put_any b1 b2 b3 b4 b5 b6 hmb u)
  have HPC : Hid (∀ u, Below w.heap.size w u → Calls Try.prog 20 #[.agg #[.int .i64 p1, .slice ao m ca]] u fun e w' => ∃ v', e = .returned (.tuple #[v', .int .i64 0]) ∧
      w'.ownsRow u.heap.size 5 1 v' (ChainV.bytes ⟨p1, L1⟩).length (Lib.byteCells (ChainV.bytes ⟨p1, L1⟩)) ∧ Below u.heap.size u w') := fun u hu => putchain_yes p1 _ L1 w.heap.size u (hI1.keep hu) hu.size hmc
  have HPD : Hid (∀ u, Below w.heap.size w u → Calls Try.prog 20 #[.agg #[.int .i64 p2, .slice bo n cb]] u fun e w' => ∃ v', e = .returned (.tuple #[v', .int .i64 0]) ∧
      w'.ownsRow u.heap.size 5 1 v' (ChainV.bytes ⟨p2, L2⟩).length (Lib.byteCells (ChainV.bytes ⟨p2, L2⟩)) ∧ Below u.heap.size u w') := fun u hu => putchain_yes p2 _ L2 w.heap.size u (hI2.keep hu) hu.size hmd
  have heq := req_eq a1 a2 a3 a4 a5 a6 b1 b2 b3 b4 b5 b6 hma hmb
  obtain ⟨xa, hxa⟩ : ∃ x, x = (gotOf ⟨a1, a2, a3, a4, a5, a6⟩).bytes := ⟨_, rfl⟩
  obtain ⟨xb, hxb⟩ : ∃ x, x = (gotOf ⟨b1, b2, b3, b4, b5, b6⟩).bytes := ⟨_, rfl⟩
  rw [← hxa] at HPA heq
  rw [← hxb] at HPB heq
  have hxy := txt_eq xa xb
  obtain ⟨R, hR⟩ : ∃ R, R = decide (xa = xb) := ⟨_, rfl⟩
  rw [← hR] at heq hxy
  obtain ⟨XA, hXA⟩ : ∃ x, x = txt xa := ⟨_, rfl⟩
  obtain ⟨XB, hXB⟩ : ∃ x, x = txt xb := ⟨_, rfl⟩
  rw [← hXA, ← hXB] at hxy
  have HXA := Lib.hid hXA
  have HXB := Lib.hid hXB
  have HEQ := Lib.hid heq
  have HXY := Lib.hid hxy
  clear heq hxy hXA hXB hR hxa hxb
  obtain ⟨zc, hzc⟩ : ∃ x, x = ChainV.bytes ⟨p1, L1⟩ := ⟨_, rfl⟩
  obtain ⟨zd, hzd⟩ : ∃ x, x = ChainV.bytes ⟨p2, L2⟩ := ⟨_, rfl⟩
  have hzz : decide (zc = zd) = decide (p1 = p2 ∧ L1 = L2) := by
    rw [decide_eq_decide]
    constructor
    · intro h
      have c1 := ChainV.got_chain ⟨p1, L1⟩ hmc
      have c2 := ChainV.got_chain ⟨p2, L2⟩ hmd
      have := chain_apart (ChainV.got ⟨p1, L1⟩) (ChainV.got ⟨p2, L2⟩) (by rw [c1]; exact hmc) (by rw [c2]; exact hmd) (by rw [ChainV.got_bytes, ChainV.got_bytes, ← hzc, ← hzd, h])
      rw [this, c2] at c1
      simp only [ChainV.mk.injEq] at c1
      exact ⟨c1.1.symm, c1.2.symm⟩
    · rintro ⟨rfl, rfl⟩
      rw [hzc, hzd]
  rw [← hzc] at HPC
  rw [← hzd] at HPD
  obtain ⟨R2, hR2⟩ : ∃ R, R = decide (p1 = p2 ∧ L1 = L2) := ⟨_, rfl⟩
  have hz2 := txt_eq zc zd
  rw [hzz, ← hR2] at hz2
  obtain ⟨XC, hXC⟩ : ∃ x, x = txt zc := ⟨_, rfl⟩
  obtain ⟨XD, hXD⟩ : ∃ x, x = txt zd := ⟨_, rfl⟩
  rw [← hXC, ← hXD] at hz2
  have HXC := Lib.hid hXC
  have HXD := Lib.hid hXD
  have HR2 := Lib.hid hR2
  have HZ2 := Lib.hid hz2
  have HL1 := Lib.hid hL1
  have HL2 := Lib.hid hL2
  obtain ⟨ab, aoff, hao, hab, hc1⟩ : ∃ b off, ao = some ⟨b, off, none⟩ ∧ b < w.heap.size ∧ ∀ j, j < m → w.cell? ⟨b, off + j, none⟩ = some (.int .i64 (L1.getD j 0)) := by
    obtain ⟨_, _, he, _, _, _, h4⟩ := hI1
    simp only [Value.slice.injEq] at he
    obtain ⟨rfl, _, _⟩ := he
    obtain ⟨b, off, h5, h6, h7⟩ := h4 (by intro h; have := hmc.2.2.1; simp only at this; rw [h] at this; simp at this)
    exact ⟨b, off, h5, h6, by rw [← hL1]; exact h7⟩
  obtain ⟨bb, boff, hbo, hbb, hc2⟩ : ∃ b off, bo = some ⟨b, off, none⟩ ∧ b < w.heap.size ∧ ∀ j, j < n → w.cell? ⟨b, off + j, none⟩ = some (.int .i64 (L2.getD j 0)) := by
    obtain ⟨_, _, he, _, _, _, h4⟩ := hI2
    simp only [Value.slice.injEq] at he
    obtain ⟨rfl, _, _⟩ := he
    obtain ⟨b, off, h5, h6, h7⟩ := h4 (by intro h; have := hmd.2.2.1; simp only at this; rw [h] at this; simp at this)
    exact ⟨b, off, h5, h6, by rw [← hL2]; exact h7⟩
  subst hao hbo
  have HC1 := Lib.hid hc1
  have HC2 := Lib.hid hc2
  clear hzc hzd hzz hR2 hz2 hXC hXD hc1 hc2
  have G0 := Lib.hid (Q4.start w a1 a2 a3 a4 a5 a6 b1 b2 b3 b4 b5 b6 p1 (.slice (some ⟨ab, aoff, none⟩) m ca) p2 (.slice (some ⟨bb, boff, none⟩) n cb) 23 38)
  clear hfa hfb hma hmc hI1 hI2 hL1 hL2 hmb hmd
  go_enter Try.func7, Try.ntmps7
  go_wp2_with fail
  refine (HFA.out _).mono ?_
  rintro e w1 ⟨rfl, B1⟩
  have G1 := Lib.hid (G0.out.step B1)
  clear B1
  obtain ⟨e0, e1, e2, e3, e4, e5⟩ := G1.out.qb.cells
  go_wp2_with fail
  refine (HFB.out _).mono ?_
  rintro e w2 ⟨rfl, B2⟩
  have G2 := Lib.hid (G1.out.step B2)
  clear B2 e0 e1 e2 e3 e4 e5
  obtain ⟨x0, x1⟩ := G2.out.qc.cells
  obtain ⟨y0, y1⟩ := G2.out.qd.cells
  obtain ⟨e0, e1, e2, e3, e4, e5⟩ := G2.out.qa.cells
  go_wp2_with fail
  refine (HPA.out _).mono ?_
  rintro e w3 ⟨va, rfl, Oa, B3⟩
  have Ya := Lib.hid (byt_own Oa (Nat.le_refl _))
  obtain ⟨ra, ka, rfl⟩ := own_shape Oa
  have G3 := Lib.hid (G2.out.step B3)
  clear B3 e0 e1 e2 e3 e4 e5 Oa
  clear x0 x1 y0 y1
  obtain ⟨e0, e1, e2, e3, e4, e5⟩ := G3.out.qb.cells
  go_wp2_with fail
  refine (HPB.out _).mono ?_
  rintro e w4 ⟨vb, rfl, Ob, B4⟩
  have Yb := Lib.hid (byt_own Ob (Nat.le_refl _))
  obtain ⟨rb, kb, rfl⟩ := own_shape Ob
  have G4 := Lib.hid (G3.out.step B4)
  have Ya4 := Lib.hid (Ya.out.keep B4)
  clear B4 e0 e1 e2 e3 e4 e5 Ob
  have P0 : Q4 w w4.drew a1 a2 a3 a4 a5 a6 b1 b2 b3 b4 b5 b6 p1 (.slice (some ⟨ab, aoff, none⟩) m ca) p2 (.slice (some ⟨bb, boff, none⟩) n cb) ∧ Byt w4.drew w3.heap.size (.slice ra xa.length ka) xa ∧ Byt w4.drew w4.heap.size (.slice rb xb.length kb) xb := ⟨G4.out.step (Below.refl _ _).drew, Ya4.out, Yb.out⟩
  have FX : Hid (∀ u, (Q4 w u a1 a2 a3 a4 a5 a6 b1 b2 b3 b4 b5 b6 p1 (.slice (some ⟨ab, aoff, none⟩) m ca) p2 (.slice (some ⟨bb, boff, none⟩) n cb) ∧ Byt u w3.heap.size (.slice ra xa.length ka) xa ∧ Byt u w4.heap.size (.slice rb xb.length kb) xb) →
      (u.cell? ⟨w.heap.size, 0, none⟩ = some (.int .i64 a1) ∧ u.cell? ⟨w.heap.size, 1, none⟩ = some (.int .i64 a2) ∧ u.cell? ⟨w.heap.size, 2, none⟩ = some (.int .i64 a3) ∧ u.cell? ⟨w.heap.size, 3, none⟩ = some (.int .i64 a4) ∧ u.cell? ⟨w.heap.size, 4, none⟩ = some (.int .i64 a5) ∧ u.cell? ⟨w.heap.size, 5, none⟩ = some (.string a6)) ∧
      (u.cell? ⟨w.heap.size + 1, 0, none⟩ = some (.int .i64 b1) ∧ u.cell? ⟨w.heap.size + 1, 1, none⟩ = some (.int .i64 b2) ∧ u.cell? ⟨w.heap.size + 1, 2, none⟩ = some (.int .i64 b3) ∧ u.cell? ⟨w.heap.size + 1, 3, none⟩ = some (.int .i64 b4) ∧ u.cell? ⟨w.heap.size + 1, 4, none⟩ = some (.int .i64 b5) ∧ u.cell? ⟨w.heap.size + 1, 5, none⟩ = some (.string b6)) ∧
      (convert 24 9 (.slice ra xa.length ka)).run Try.prog u = .ok (.string XA) u ∧ (convert 24 9 (.slice rb xb.length kb)).run Try.prog u = .ok (.string XB) u) := fun u hu =>
    ⟨hu.1.qa.cells, hu.1.qb.cells, by rw [HXA.out]; exact run_conv_byt hu.2.1, by rw [HXB.out]; exact run_conv_byt hu.2.2⟩
  go_wp2_with fail
  refine region_quiet (fun v => Q4 w v a1 a2 a3 a4 a5 a6 b1 b2 b3 b4 b5 b6 p1 (.slice (some ⟨ab, aoff, none⟩) m ca) p2 (.slice (some ⟨bb, boff, none⟩) n cb) ∧ Byt v w3.heap.size (.slice ra xa.length ka) xa ∧ Byt v w4.heap.size (.slice rb xb.length kb) xb) (by kernel_rfl) (by kernel_rfl) P0 ?_
  repeat (first
    | go_big_quiet_skip
    | (go_big_quiet_want
       (refine quiet_run (v := ?_) ?_ ?_; rotate_left; (intro u hu; have heq := HEQ.out; have hxy := HXY.out; obtain ⟨⟨c0, c1, c2, c3, c4, c5⟩, ⟨d0, d1, d2, d3, d4, d5⟩, k0, k1⟩ := FX.out u hu; go_simp <;> with_reducible rfl); simp only [Act.put, List.setIfInBounds_toArray, List.set_cons_zero, List.set_cons_succ]; go_big_quiet_on)))
  refine wpQuiet_nil ?_
  intro w5 h5
  have G5 := Lib.hid h5.1
  clear P0 FX h5
  obtain ⟨x0, x1⟩ := G5.out.qc.cells
  go_wp2_with fail
  refine (HPC.out _ G5.out.bel).mono ?_
  rintro e w6 ⟨vc, rfl, Oc, B6⟩
  have Yc := Lib.hid (byt_own Oc (Nat.le_refl _))
  obtain ⟨rc, kc, rfl⟩ := own_shape Oc
  have G6 := Lib.hid (G5.out.step B6)
  clear B6 Oc x0 x1
  obtain ⟨x0, x1⟩ := G6.out.qd.cells
  go_wp2_with fail
  refine (HPD.out _ G6.out.bel).mono ?_
  rintro e w7 ⟨vd, rfl, Od, B7⟩
  have Yd := Lib.hid (byt_own Od (Nat.le_refl _))
  obtain ⟨rd, kd, rfl⟩ := own_shape Od
  have G7 := Lib.hid (G6.out.step B7)
  have Yc7 := Lib.hid (Yc.out.keep B7)
  have s67 := B7.size
  clear B7 Od x0 x1
  obtain ⟨x0, x1⟩ := G7.out.qc.cells
  obtain ⟨y0, y1⟩ := G7.out.qd.cells
  by_cases hpp : p1 = p2 ∧ m = n
  case neg =>
    have HR3 : Hid (R2 = false) := by
      show _ = _
      rw [HR2.out]
      refine decide_eq_false fun h => hpp ⟨h.1, ?_⟩
      rw [← HL1.out, ← HL2.out, h.2]
    have hcs : (p1 == p2) = false ∨ ((p1 == p2) = true ∧ ((m : Int) == (n : Int)) = false) := by
      by_cases h : p1 = p2
      · right
        exact ⟨by simp [h], by rw [beq_eq_false_iff_ne]; intro he; exact hpp ⟨h, by omega⟩⟩
      · left
        exact beq_eq_false_iff_ne.2 h
    have HBW : Hid (Below w.heap.size w w7) := G7.out.bel
    have HYC : Hid (Byt w7 w6.heap.size (.slice rc zc.length kc) zc) := Yc7.out
    have HYD : Hid (Byt w7 w7.heap.size (.slice rd zd.length kd) zd) := Yd.out
    have HSZ : Hid (w6.heap.size ≤ w7.heap.size) := s67
    clear hpp
    rcases hcs with hcs | ⟨hcs, hcs2⟩
    all_goals
      go_wp2
      refine wp_loop_rounds 1 ?_
      rw [rounds_succ]
      go_wp2_with fail
      refine (HT.out _).mono ?_
      rintro e w9 ⟨rfl, B9⟩
      have BB9 := Lib.hid B9
      have HB9 : Hid (Below w.heap.size w w9) := HBW.out.trans (B9.mono HBW.out.size)
      have kc9 : (convert 24 9 (.slice rc zc.length kc)).run Try.prog w9 = .ok (.string XC) w9 := by rw [HXC.out]; exact run_conv_byt ((HYC.out.keep (B9.mono (by have := HSZ.out; omega))))
      have kd9 : (convert 24 9 (.slice rd zd.length kd)).run Try.prog w9 = .ok (.string XD) w9 := by rw [HXD.out]; exact run_conv_byt ((HYD.out.keep (B9.mono (by have := HSZ.out; omega))))
      have hzf : (XC.toList == XD.toList) = false := by rw [HZ2.out, HR3.out]
      clear B9
      go_wp2
      go_returns
      exact ⟨rfl, HB9.out⟩
  obtain ⟨rfl, rfl⟩ := hpp
  go_wp2
  go_loopw [17, 18] (fun vs vi wr => ∃ i : Nat, i ≤ m ∧ vi = .int .i64 i ∧ vs = .bool (decide (L1.take i = L2.take i)) ∧ Below w7.heap.size w7 wr) (fun _ vi _ => m - (intOf vi).toNat)
  case atStart => exact ⟨0, by omega, rfl, rfl, Below.refl _ _⟩
  case round =>
    obtain ⟨i, hi, rfl, rfl, hbw⟩ := hrel
    have HBQ := Lib.hid hbw
    have HBW : Hid (Below w.heap.size w wr) := G7.out.bel.trans (hbw.mono G7.out.bel.size)
    have HYC : Hid (Byt wr w6.heap.size (.slice rc zc.length kc) zc) := Yc7.out.keep (hbw.mono s67)
    have HYD : Hid (Byt wr w7.heap.size (.slice rd zd.length kd) zd) := Yd.out.keep hbw
    have HSZ : Hid (w6.heap.size ≤ wr.heap.size ∧ w7.heap.size ≤ wr.heap.size) := ⟨by have := hbw.size; omega, hbw.size⟩
    have GW := Lib.hid (G7.out.step hbw)
    clear hbw x0 x1 y0 y1
    obtain ⟨x0, x1⟩ := GW.out.qc.cells
    obtain ⟨y0, y1⟩ := GW.out.qd.cells
    by_cases htk : L1.take i = L2.take i
    · have HTK := Lib.hid htk
      rw [decide_eq_true htk]
      clear htk
      by_cases hlt : i < m
      · obtain ⟨x, hx⟩ : ∃ x, x = L1.getD i 0 := ⟨_, rfl⟩
        obtain ⟨y, hy⟩ : ∃ y, y = L2.getD i 0 := ⟨_, rfl⟩
        have e1 : wr.cell? ⟨ab, aoff + i, none⟩ = some (.int .i64 x) := by rw [hx, ← HC1.out i hlt]; exact HBW.out.cell (p := ⟨ab, aoff + i, none⟩) hab
        have e2 : wr.cell? ⟨bb, boff + i, none⟩ = some (.int .i64 y) := by rw [hy, ← HC2.out i hlt]; exact HBW.out.cell (p := ⟨bb, boff + i, none⟩) hbb
        have T1 : Hid (L1.take (i + 1) = L1.take i ++ [x]) := by show _ = _; rw [hx]; exact take_snoc L1 i (by rw [HL1.out]; exact hlt)
        have T2 : Hid (L2.take (i + 1) = L2.take i ++ [y]) := by show _ = _; rw [hy]; exact take_snoc L2 i (by rw [HL2.out]; exact hlt)
        have HXYZ : Hid ((x == y) = decide (L1.take (i + 1) = L2.take (i + 1))) := by
          show _ = _
          rw [T1.out, T2.out, HTK.out, Bool.eq_iff_iff]
          simp
        have i0 : (0 : Int) ≤ (i : Int) := by omega
        have i1 : (i : Int) < (m : Int) := by omega
        clear hx hy
        go_wp2
        go_quiet (fail)
        go_wp2
        go_roundw
        case rel => exact ⟨i + 1, by omega, by go_num, by rw [HXYZ.out], below_drewN HBQ.out _⟩
        case measure => simp [intOf]; omega
      · have him : i = m := by omega
        have HR3 : Hid (R2 = true) := by
          show _ = _
          rw [HR2.out]
          refine decide_eq_true ⟨by trivial, ?_⟩
          have := HTK.out
          rwa [List.take_of_length_le (by rw [HL1.out]; omega), List.take_of_length_le (by rw [HL2.out]; omega)] at this
        clear him
        go_wp2_with fail
        refine (HT.out _).mono ?_
        rintro e w9 ⟨rfl, B9⟩
        have BB9 := Lib.hid B9
        have HB9 : Hid (Below w.heap.size w w9) := HBW.out.trans (B9.mono HBW.out.size)
        have kc9 : (convert 24 9 (.slice rc zc.length kc)).run Try.prog w9 = .ok (.string XC) w9 := by rw [HXC.out]; exact run_conv_byt ((HYC.out.keep (B9.mono (by have := HSZ.out; omega))))
        have kd9 : (convert 24 9 (.slice rd zd.length kd)).run Try.prog w9 = .ok (.string XD) w9 := by rw [HXD.out]; exact run_conv_byt ((HYD.out.keep (B9.mono (by have := HSZ.out; omega))))
        have hzf : (XC.toList == XD.toList) = true := by rw [HZ2.out, HR3.out]
        clear B9
        go_wp2
        go_returns
        exact ⟨rfl, HB9.out⟩
    · have HR3 : Hid (R2 = false) := by
        show _ = _
        rw [HR2.out]
        refine decide_eq_false fun h => htk ?_
        rw [h.2]
      rw [decide_eq_false htk]
      clear htk
      go_wp2_with fail
      refine (HT.out _).mono ?_
      rintro e w9 ⟨rfl, B9⟩
      have BB9 := Lib.hid B9
      have HB9 : Hid (Below w.heap.size w w9) := HBW.out.trans (B9.mono HBW.out.size)
      have kc9 : (convert 24 9 (.slice rc zc.length kc)).run Try.prog w9 = .ok (.string XC) w9 := by rw [HXC.out]; exact run_conv_byt ((HYC.out.keep (B9.mono (by have := HSZ.out; omega))))
      have kd9 : (convert 24 9 (.slice rd zd.length kd)).run Try.prog w9 = .ok (.string XD) w9 := by rw [HXD.out]; exact run_conv_byt ((HYD.out.keep (B9.mono (by have := HSZ.out; omega))))
      have hzf : (XC.toList == XD.toList) = false := by rw [HZ2.out, HR3.out]
      clear B9
      go_wp2
      go_returns
      exact ⟨rfl, HB9.out⟩

set_option maxHeartbeats 2000000 in
set_option maxRecDepth 100000 in
theorem go_yyyn (a1 a2 a3 a4 a5 : Int) (a6 : ByteArray) (b1 b2 b3 b4 b5 : Int) (b6 : ByteArray) (p1 p2 : Int) (ao bo : Option Addr) (m n ca cb : Nat) (w : World) (hda : a6.size ≤ 9223372036854775807) (hdb : b6.size ≤ 9223372036854775807) (hfa : a6.size ≤ 300) (hfb : b6.size ≤ 300) (hm8 : m ≤ 8) (hn8 : n ≤ 8) (L1 L2 : List Int) (_ : L1.length = m) (_ : L2.length = n) (hI1 : Ints w w.heap.size (.slice ao m ca) L1) (hI2 : Ints w w.heap.size (.slice bo n cb) L2) (hma : ReqV.may ⟨a1, a2, a3, a4, a5, a6⟩) (hmb : ReqV.may ⟨b1, b2, b3, b4, b5, b6⟩) (hmc : ChainV.may ⟨p1, L1⟩) (hmd : ¬ ChainV.may ⟨p2, L2⟩) :
    Calls Try.prog 7 #[.agg #[.int .i64 a1, .int .i64 a2, .int .i64 a3, .int .i64 a4, .int .i64 a5, .string a6], .agg #[.int .i64 b1, .int .i64 b2, .int .i64 b3, .int .i64 b4, .int .i64 b5, .string b6], .agg #[.int .i64 p1, .slice ao m ca], .agg #[.int .i64 p2, .slice bo n cb]] w fun e w' => e = .returned (.bool true) ∧ Below w.heap.size w w' := by
  have HT := Lib.hid (fun u => told2_any u)
  have HFA := Lib.hid (fun u => few_any a1 a2 a3 a4 a5 a6 hda true (show _ = _ from (decide_eq_true hfa).symm) u)
  have HFB := Lib.hid (fun u => few_any b1 b2 b3 b4 b5 b6 hdb true (show _ = _ from (decide_eq_true hfb).symm) u)
  have HPA := Lib.hid (fun u => put_any a1 a2 a3 a4 a5 a6 hma u)
  have HPB := Lib.hid (fun u => put_any b1 b2 b3 b4 b5 b6 hmb u)
  have HPC : Hid (∀ u, Below w.heap.size w u → Calls Try.prog 20 #[.agg #[.int .i64 p1, .slice ao m ca]] u fun e w' => ∃ v', e = .returned (.tuple #[v', .int .i64 0]) ∧
      w'.ownsRow u.heap.size 5 1 v' (ChainV.bytes ⟨p1, L1⟩).length (Lib.byteCells (ChainV.bytes ⟨p1, L1⟩)) ∧ Below u.heap.size u w') := fun u hu => putchain_yes p1 _ L1 w.heap.size u (hI1.keep hu) hu.size hmc
  have HPD : Hid (∀ u, Below w.heap.size w u → Calls Try.prog 20 #[.agg #[.int .i64 p2, .slice bo n cb]] u fun e w' => e = .returned (.tuple #[.slice none 0 0, .int .i64 1]) ∧ Below u.heap.size u w') := fun u hu => putchain_no p2 _ L2 w.heap.size u (hI2.keep hu) hu.size hmd
  have heq := req_eq a1 a2 a3 a4 a5 a6 b1 b2 b3 b4 b5 b6 hma hmb
  obtain ⟨xa, hxa⟩ : ∃ x, x = (gotOf ⟨a1, a2, a3, a4, a5, a6⟩).bytes := ⟨_, rfl⟩
  obtain ⟨xb, hxb⟩ : ∃ x, x = (gotOf ⟨b1, b2, b3, b4, b5, b6⟩).bytes := ⟨_, rfl⟩
  rw [← hxa] at HPA heq
  rw [← hxb] at HPB heq
  have hxy := txt_eq xa xb
  obtain ⟨R, hR⟩ : ∃ R, R = decide (xa = xb) := ⟨_, rfl⟩
  rw [← hR] at heq hxy
  obtain ⟨XA, hXA⟩ : ∃ x, x = txt xa := ⟨_, rfl⟩
  obtain ⟨XB, hXB⟩ : ∃ x, x = txt xb := ⟨_, rfl⟩
  rw [← hXA, ← hXB] at hxy
  have HXA := Lib.hid hXA
  have HXB := Lib.hid hXB
  have HEQ := Lib.hid heq
  have HXY := Lib.hid hxy
  clear heq hxy hXA hXB hR hxa hxb
  have G0 := Lib.hid (Q4.start w a1 a2 a3 a4 a5 a6 b1 b2 b3 b4 b5 b6 p1 (.slice ao m ca) p2 (.slice bo n cb) 23 38)
  clear hfa hfb hma hmc hI1 hI2 hmb hmd
  go_enter Try.func7, Try.ntmps7
  go_wp2_with fail
  refine (HFA.out _).mono ?_
  rintro e w1 ⟨rfl, B1⟩
  have G1 := Lib.hid (G0.out.step B1)
  clear B1
  obtain ⟨e0, e1, e2, e3, e4, e5⟩ := G1.out.qb.cells
  go_wp2_with fail
  refine (HFB.out _).mono ?_
  rintro e w2 ⟨rfl, B2⟩
  have G2 := Lib.hid (G1.out.step B2)
  clear B2 e0 e1 e2 e3 e4 e5
  obtain ⟨x0, x1⟩ := G2.out.qc.cells
  obtain ⟨y0, y1⟩ := G2.out.qd.cells
  obtain ⟨e0, e1, e2, e3, e4, e5⟩ := G2.out.qa.cells
  go_wp2_with fail
  refine (HPA.out _).mono ?_
  rintro e w3 ⟨va, rfl, Oa, B3⟩
  have Ya := Lib.hid (byt_own Oa (Nat.le_refl _))
  obtain ⟨ra, ka, rfl⟩ := own_shape Oa
  have G3 := Lib.hid (G2.out.step B3)
  clear B3 e0 e1 e2 e3 e4 e5 Oa
  clear x0 x1 y0 y1
  obtain ⟨e0, e1, e2, e3, e4, e5⟩ := G3.out.qb.cells
  go_wp2_with fail
  refine (HPB.out _).mono ?_
  rintro e w4 ⟨vb, rfl, Ob, B4⟩
  have Yb := Lib.hid (byt_own Ob (Nat.le_refl _))
  obtain ⟨rb, kb, rfl⟩ := own_shape Ob
  have G4 := Lib.hid (G3.out.step B4)
  have Ya4 := Lib.hid (Ya.out.keep B4)
  clear B4 e0 e1 e2 e3 e4 e5 Ob
  have P0 : Q4 w w4.drew a1 a2 a3 a4 a5 a6 b1 b2 b3 b4 b5 b6 p1 (.slice ao m ca) p2 (.slice bo n cb) ∧ Byt w4.drew w3.heap.size (.slice ra xa.length ka) xa ∧ Byt w4.drew w4.heap.size (.slice rb xb.length kb) xb := ⟨G4.out.step (Below.refl _ _).drew, Ya4.out, Yb.out⟩
  have FX : Hid (∀ u, (Q4 w u a1 a2 a3 a4 a5 a6 b1 b2 b3 b4 b5 b6 p1 (.slice ao m ca) p2 (.slice bo n cb) ∧ Byt u w3.heap.size (.slice ra xa.length ka) xa ∧ Byt u w4.heap.size (.slice rb xb.length kb) xb) →
      (u.cell? ⟨w.heap.size, 0, none⟩ = some (.int .i64 a1) ∧ u.cell? ⟨w.heap.size, 1, none⟩ = some (.int .i64 a2) ∧ u.cell? ⟨w.heap.size, 2, none⟩ = some (.int .i64 a3) ∧ u.cell? ⟨w.heap.size, 3, none⟩ = some (.int .i64 a4) ∧ u.cell? ⟨w.heap.size, 4, none⟩ = some (.int .i64 a5) ∧ u.cell? ⟨w.heap.size, 5, none⟩ = some (.string a6)) ∧
      (u.cell? ⟨w.heap.size + 1, 0, none⟩ = some (.int .i64 b1) ∧ u.cell? ⟨w.heap.size + 1, 1, none⟩ = some (.int .i64 b2) ∧ u.cell? ⟨w.heap.size + 1, 2, none⟩ = some (.int .i64 b3) ∧ u.cell? ⟨w.heap.size + 1, 3, none⟩ = some (.int .i64 b4) ∧ u.cell? ⟨w.heap.size + 1, 4, none⟩ = some (.int .i64 b5) ∧ u.cell? ⟨w.heap.size + 1, 5, none⟩ = some (.string b6)) ∧
      (convert 24 9 (.slice ra xa.length ka)).run Try.prog u = .ok (.string XA) u ∧ (convert 24 9 (.slice rb xb.length kb)).run Try.prog u = .ok (.string XB) u) := fun u hu =>
    ⟨hu.1.qa.cells, hu.1.qb.cells, by rw [HXA.out]; exact run_conv_byt hu.2.1, by rw [HXB.out]; exact run_conv_byt hu.2.2⟩
  go_wp2_with fail
  refine region_quiet (fun v => Q4 w v a1 a2 a3 a4 a5 a6 b1 b2 b3 b4 b5 b6 p1 (.slice ao m ca) p2 (.slice bo n cb) ∧ Byt v w3.heap.size (.slice ra xa.length ka) xa ∧ Byt v w4.heap.size (.slice rb xb.length kb) xb) (by kernel_rfl) (by kernel_rfl) P0 ?_
  repeat (first
    | go_big_quiet_skip
    | (go_big_quiet_want
       (refine quiet_run (v := ?_) ?_ ?_; rotate_left; (intro u hu; have heq := HEQ.out; have hxy := HXY.out; obtain ⟨⟨c0, c1, c2, c3, c4, c5⟩, ⟨d0, d1, d2, d3, d4, d5⟩, k0, k1⟩ := FX.out u hu; go_simp <;> with_reducible rfl); simp only [Act.put, List.setIfInBounds_toArray, List.set_cons_zero, List.set_cons_succ]; go_big_quiet_on)))
  refine wpQuiet_nil ?_
  intro w5 h5
  have G5 := Lib.hid h5.1
  clear P0 FX h5
  obtain ⟨x0, x1⟩ := G5.out.qc.cells
  go_wp2_with fail
  refine (HPC.out _ G5.out.bel).mono ?_
  rintro e w6 ⟨vc, rfl, Oc, B6⟩
  have Yc := Lib.hid (byt_own Oc (Nat.le_refl _))
  obtain ⟨rc, kc, rfl⟩ := own_shape Oc
  have G6 := Lib.hid (G5.out.step B6)
  clear B6 Oc x0 x1
  obtain ⟨x0, x1⟩ := G6.out.qd.cells
  go_wp2_with fail
  refine (HPD.out _ G6.out.bel).mono ?_
  rintro e w7 ⟨rfl, B7⟩
  have G7 := Lib.hid (G6.out.step B7)
  clear B7 x0 x1
  go_wp2_with fail
  refine (HT.out _).mono ?_
  rintro e wt ⟨rfl, BT⟩
  have GT := Lib.hid (G7.out.step BT)
  clear BT
  go_wp2
  go_returns
  exact ⟨rfl, GT.out.bel⟩

set_option maxHeartbeats 2000000 in
set_option maxRecDepth 100000 in
theorem go_yynx (a1 a2 a3 a4 a5 : Int) (a6 : ByteArray) (b1 b2 b3 b4 b5 : Int) (b6 : ByteArray) (p1 p2 : Int) (ao bo : Option Addr) (m n ca cb : Nat) (w : World) (hda : a6.size ≤ 9223372036854775807) (hdb : b6.size ≤ 9223372036854775807) (hfa : a6.size ≤ 300) (hfb : b6.size ≤ 300) (hm8 : m ≤ 8) (hn8 : n ≤ 8) (L1 L2 : List Int) (_ : L1.length = m) (_ : L2.length = n) (hI1 : Ints w w.heap.size (.slice ao m ca) L1) (hI2 : Ints w w.heap.size (.slice bo n cb) L2) (hma : ReqV.may ⟨a1, a2, a3, a4, a5, a6⟩) (hmb : ReqV.may ⟨b1, b2, b3, b4, b5, b6⟩) (hmc : ¬ ChainV.may ⟨p1, L1⟩) :
    Calls Try.prog 7 #[.agg #[.int .i64 a1, .int .i64 a2, .int .i64 a3, .int .i64 a4, .int .i64 a5, .string a6], .agg #[.int .i64 b1, .int .i64 b2, .int .i64 b3, .int .i64 b4, .int .i64 b5, .string b6], .agg #[.int .i64 p1, .slice ao m ca], .agg #[.int .i64 p2, .slice bo n cb]] w fun e w' => e = .returned (.bool true) ∧ Below w.heap.size w w' := by
  have HT := Lib.hid (fun u => told2_any u)
  have HFA := Lib.hid (fun u => few_any a1 a2 a3 a4 a5 a6 hda true (show _ = _ from (decide_eq_true hfa).symm) u)
  have HFB := Lib.hid (fun u => few_any b1 b2 b3 b4 b5 b6 hdb true (show _ = _ from (decide_eq_true hfb).symm) u)
  have HPA := Lib.hid (fun u => put_any a1 a2 a3 a4 a5 a6 hma u)
  have HPB := Lib.hid (fun u => put_any b1 b2 b3 b4 b5 b6 hmb u)
  have HPC : Hid (∀ u, Below w.heap.size w u → Calls Try.prog 20 #[.agg #[.int .i64 p1, .slice ao m ca]] u fun e w' => e = .returned (.tuple #[.slice none 0 0, .int .i64 1]) ∧ Below u.heap.size u w') := fun u hu => putchain_no p1 _ L1 w.heap.size u (hI1.keep hu) hu.size hmc
  obtain ⟨ed, hed⟩ : ∃ ed : Int, ∀ u, Below w.heap.size w u → Calls Try.prog 20 #[.agg #[.int .i64 p2, .slice bo n cb]] u fun e w' => ∃ rd kd ld, e = .returned (.tuple #[.slice rd ld kd, .int .i64 ed]) ∧ Below u.heap.size u w' := by
    by_cases hmd : ChainV.may ⟨p2, L2⟩
    · refine ⟨0, fun u hu => (putchain_yes p2 _ L2 w.heap.size u (hI2.keep hu) hu.size hmd).mono ?_⟩
      rintro e w' ⟨v, rfl, ho, hb⟩
      obtain ⟨r, k, rfl⟩ := own_shape ho
      exact ⟨r, k, _, rfl, hb⟩
    · refine ⟨1, fun u hu => (putchain_no p2 _ L2 w.heap.size u (hI2.keep hu) hu.size hmd).mono ?_⟩
      rintro e w' ⟨rfl, hb⟩
      exact ⟨none, 0, 0, rfl, hb⟩
  have HPD := Lib.hid hed
  clear hed
  have heq := req_eq a1 a2 a3 a4 a5 a6 b1 b2 b3 b4 b5 b6 hma hmb
  obtain ⟨xa, hxa⟩ : ∃ x, x = (gotOf ⟨a1, a2, a3, a4, a5, a6⟩).bytes := ⟨_, rfl⟩
  obtain ⟨xb, hxb⟩ : ∃ x, x = (gotOf ⟨b1, b2, b3, b4, b5, b6⟩).bytes := ⟨_, rfl⟩
  rw [← hxa] at HPA heq
  rw [← hxb] at HPB heq
  have hxy := txt_eq xa xb
  obtain ⟨R, hR⟩ : ∃ R, R = decide (xa = xb) := ⟨_, rfl⟩
  rw [← hR] at heq hxy
  obtain ⟨XA, hXA⟩ : ∃ x, x = txt xa := ⟨_, rfl⟩
  obtain ⟨XB, hXB⟩ : ∃ x, x = txt xb := ⟨_, rfl⟩
  rw [← hXA, ← hXB] at hxy
  have HXA := Lib.hid hXA
  have HXB := Lib.hid hXB
  have HEQ := Lib.hid heq
  have HXY := Lib.hid hxy
  clear heq hxy hXA hXB hR hxa hxb
  have G0 := Lib.hid (Q4.start w a1 a2 a3 a4 a5 a6 b1 b2 b3 b4 b5 b6 p1 (.slice ao m ca) p2 (.slice bo n cb) 23 38)
  clear hfa hfb hma hmc hI1 hI2 hmb
  go_enter Try.func7, Try.ntmps7
  go_wp2_with fail
  refine (HFA.out _).mono ?_
  rintro e w1 ⟨rfl, B1⟩
  have G1 := Lib.hid (G0.out.step B1)
  clear B1
  obtain ⟨e0, e1, e2, e3, e4, e5⟩ := G1.out.qb.cells
  go_wp2_with fail
  refine (HFB.out _).mono ?_
  rintro e w2 ⟨rfl, B2⟩
  have G2 := Lib.hid (G1.out.step B2)
  clear B2 e0 e1 e2 e3 e4 e5
  obtain ⟨x0, x1⟩ := G2.out.qc.cells
  obtain ⟨y0, y1⟩ := G2.out.qd.cells
  obtain ⟨e0, e1, e2, e3, e4, e5⟩ := G2.out.qa.cells
  go_wp2_with fail
  refine (HPA.out _).mono ?_
  rintro e w3 ⟨va, rfl, Oa, B3⟩
  have Ya := Lib.hid (byt_own Oa (Nat.le_refl _))
  obtain ⟨ra, ka, rfl⟩ := own_shape Oa
  have G3 := Lib.hid (G2.out.step B3)
  clear B3 e0 e1 e2 e3 e4 e5 Oa
  clear x0 x1 y0 y1
  obtain ⟨e0, e1, e2, e3, e4, e5⟩ := G3.out.qb.cells
  go_wp2_with fail
  refine (HPB.out _).mono ?_
  rintro e w4 ⟨vb, rfl, Ob, B4⟩
  have Yb := Lib.hid (byt_own Ob (Nat.le_refl _))
  obtain ⟨rb, kb, rfl⟩ := own_shape Ob
  have G4 := Lib.hid (G3.out.step B4)
  have Ya4 := Lib.hid (Ya.out.keep B4)
  clear B4 e0 e1 e2 e3 e4 e5 Ob
  have P0 : Q4 w w4.drew a1 a2 a3 a4 a5 a6 b1 b2 b3 b4 b5 b6 p1 (.slice ao m ca) p2 (.slice bo n cb) ∧ Byt w4.drew w3.heap.size (.slice ra xa.length ka) xa ∧ Byt w4.drew w4.heap.size (.slice rb xb.length kb) xb := ⟨G4.out.step (Below.refl _ _).drew, Ya4.out, Yb.out⟩
  have FX : Hid (∀ u, (Q4 w u a1 a2 a3 a4 a5 a6 b1 b2 b3 b4 b5 b6 p1 (.slice ao m ca) p2 (.slice bo n cb) ∧ Byt u w3.heap.size (.slice ra xa.length ka) xa ∧ Byt u w4.heap.size (.slice rb xb.length kb) xb) →
      (u.cell? ⟨w.heap.size, 0, none⟩ = some (.int .i64 a1) ∧ u.cell? ⟨w.heap.size, 1, none⟩ = some (.int .i64 a2) ∧ u.cell? ⟨w.heap.size, 2, none⟩ = some (.int .i64 a3) ∧ u.cell? ⟨w.heap.size, 3, none⟩ = some (.int .i64 a4) ∧ u.cell? ⟨w.heap.size, 4, none⟩ = some (.int .i64 a5) ∧ u.cell? ⟨w.heap.size, 5, none⟩ = some (.string a6)) ∧
      (u.cell? ⟨w.heap.size + 1, 0, none⟩ = some (.int .i64 b1) ∧ u.cell? ⟨w.heap.size + 1, 1, none⟩ = some (.int .i64 b2) ∧ u.cell? ⟨w.heap.size + 1, 2, none⟩ = some (.int .i64 b3) ∧ u.cell? ⟨w.heap.size + 1, 3, none⟩ = some (.int .i64 b4) ∧ u.cell? ⟨w.heap.size + 1, 4, none⟩ = some (.int .i64 b5) ∧ u.cell? ⟨w.heap.size + 1, 5, none⟩ = some (.string b6)) ∧
      (convert 24 9 (.slice ra xa.length ka)).run Try.prog u = .ok (.string XA) u ∧ (convert 24 9 (.slice rb xb.length kb)).run Try.prog u = .ok (.string XB) u) := fun u hu =>
    ⟨hu.1.qa.cells, hu.1.qb.cells, by rw [HXA.out]; exact run_conv_byt hu.2.1, by rw [HXB.out]; exact run_conv_byt hu.2.2⟩
  go_wp2_with fail
  refine region_quiet (fun v => Q4 w v a1 a2 a3 a4 a5 a6 b1 b2 b3 b4 b5 b6 p1 (.slice ao m ca) p2 (.slice bo n cb) ∧ Byt v w3.heap.size (.slice ra xa.length ka) xa ∧ Byt v w4.heap.size (.slice rb xb.length kb) xb) (by kernel_rfl) (by kernel_rfl) P0 ?_
  repeat (first
    | go_big_quiet_skip
    | (go_big_quiet_want
       (refine quiet_run (v := ?_) ?_ ?_; rotate_left; (intro u hu; have heq := HEQ.out; have hxy := HXY.out; obtain ⟨⟨c0, c1, c2, c3, c4, c5⟩, ⟨d0, d1, d2, d3, d4, d5⟩, k0, k1⟩ := FX.out u hu; go_simp <;> with_reducible rfl); simp only [Act.put, List.setIfInBounds_toArray, List.set_cons_zero, List.set_cons_succ]; go_big_quiet_on)))
  refine wpQuiet_nil ?_
  intro w5 h5
  have G5 := Lib.hid h5.1
  clear P0 FX h5
  obtain ⟨x0, x1⟩ := G5.out.qc.cells
  go_wp2_with fail
  refine (HPC.out _ G5.out.bel).mono ?_
  rintro e w6 ⟨rfl, B6⟩
  have G6 := Lib.hid (G5.out.step B6)
  clear B6 x0 x1
  obtain ⟨x0, x1⟩ := G6.out.qd.cells
  go_wp2_with fail
  refine (HPD.out _ G6.out.bel).mono ?_
  rintro e w7 ⟨rd, kd, ld, rfl, B7⟩
  have G7 := Lib.hid (G6.out.step B7)
  clear B7 x0 x1
  go_wp2_with fail
  refine (HT.out _).mono ?_
  rintro e wt ⟨rfl, BT⟩
  have GT := Lib.hid (G7.out.step BT)
  clear BT
  go_wp2
  go_returns
  exact ⟨rfl, GT.out.bel⟩

set_option maxHeartbeats 2000000 in
set_option maxRecDepth 100000 in
theorem go_ynyy (a1 a2 a3 a4 a5 : Int) (a6 : ByteArray) (b1 b2 b3 b4 b5 : Int) (b6 : ByteArray) (p1 p2 : Int) (ao bo : Option Addr) (m n ca cb : Nat) (w : World) (hda : a6.size ≤ 9223372036854775807) (hdb : b6.size ≤ 9223372036854775807) (hfa : a6.size ≤ 300) (hfb : b6.size ≤ 300) (hm8 : m ≤ 8) (hn8 : n ≤ 8) (L1 L2 : List Int) (hL1 : L1.length = m) (hL2 : L2.length = n) (hI1 : Ints w w.heap.size (.slice ao m ca) L1) (hI2 : Ints w w.heap.size (.slice bo n cb) L2) (hma : ReqV.may ⟨a1, a2, a3, a4, a5, a6⟩) (hmb : ¬ ReqV.may ⟨b1, b2, b3, b4, b5, b6⟩) (hmc : ChainV.may ⟨p1, L1⟩) (hmd : ChainV.may ⟨p2, L2⟩) :
    Calls Try.prog 7 #[.agg #[.int .i64 a1, .int .i64 a2, .int .i64 a3, .int .i64 a4, .int .i64 a5, .string a6], .agg #[.int .i64 b1, .int .i64 b2, .int .i64 b3, .int .i64 b4, .int .i64 b5, .string b6], .agg #[.int .i64 p1, .slice ao m ca], .agg #[.int .i64 p2, .slice bo n cb]] w fun e w' => e = .returned (.bool true) ∧ Below w.heap.size w w' := by
  have HT := Lib.hid (fun u => told2_any u)
  have HFA := Lib.hid (fun u => few_any a1 a2 a3 a4 a5 a6 hda true (show _ = _ from (decide_eq_true hfa).symm) u)
  have HFB := Lib.hid (fun u => few_any b1 b2 b3 b4 b5 b6 hdb true (show _ = _ from (decide_eq_true hfb).symm) u)
  have HPA := Lib.hid (fun u => put_any a1 a2 a3 a4 a5 a6 hma u)
  have HPB := Lib.hid (fun u => putreq_no b1 b2 b3 b4 b5 b6 hdb hmb u)
  have HPC : Hid (∀ u, Below w.heap.size w u → Calls Try.prog 20 #[.agg #[.int .i64 p1, .slice ao m ca]] u fun e w' => ∃ v', e = .returned (.tuple #[v', .int .i64 0]) ∧
      w'.ownsRow u.heap.size 5 1 v' (ChainV.bytes ⟨p1, L1⟩).length (Lib.byteCells (ChainV.bytes ⟨p1, L1⟩)) ∧ Below u.heap.size u w') := fun u hu => putchain_yes p1 _ L1 w.heap.size u (hI1.keep hu) hu.size hmc
  have HPD : Hid (∀ u, Below w.heap.size w u → Calls Try.prog 20 #[.agg #[.int .i64 p2, .slice bo n cb]] u fun e w' => ∃ v', e = .returned (.tuple #[v', .int .i64 0]) ∧
      w'.ownsRow u.heap.size 5 1 v' (ChainV.bytes ⟨p2, L2⟩).length (Lib.byteCells (ChainV.bytes ⟨p2, L2⟩)) ∧ Below u.heap.size u w') := fun u hu => putchain_yes p2 _ L2 w.heap.size u (hI2.keep hu) hu.size hmd
  obtain ⟨zc, hzc⟩ : ∃ x, x = ChainV.bytes ⟨p1, L1⟩ := ⟨_, rfl⟩
  obtain ⟨zd, hzd⟩ : ∃ x, x = ChainV.bytes ⟨p2, L2⟩ := ⟨_, rfl⟩
  have hzz : decide (zc = zd) = decide (p1 = p2 ∧ L1 = L2) := by
    rw [decide_eq_decide]
    constructor
    · intro h
      have c1 := ChainV.got_chain ⟨p1, L1⟩ hmc
      have c2 := ChainV.got_chain ⟨p2, L2⟩ hmd
      have := chain_apart (ChainV.got ⟨p1, L1⟩) (ChainV.got ⟨p2, L2⟩) (by rw [c1]; exact hmc) (by rw [c2]; exact hmd) (by rw [ChainV.got_bytes, ChainV.got_bytes, ← hzc, ← hzd, h])
      rw [this, c2] at c1
      simp only [ChainV.mk.injEq] at c1
      exact ⟨c1.1.symm, c1.2.symm⟩
    · rintro ⟨rfl, rfl⟩
      rw [hzc, hzd]
  rw [← hzc] at HPC
  rw [← hzd] at HPD
  obtain ⟨R2, hR2⟩ : ∃ R, R = decide (p1 = p2 ∧ L1 = L2) := ⟨_, rfl⟩
  have hz2 := txt_eq zc zd
  rw [hzz, ← hR2] at hz2
  obtain ⟨XC, hXC⟩ : ∃ x, x = txt zc := ⟨_, rfl⟩
  obtain ⟨XD, hXD⟩ : ∃ x, x = txt zd := ⟨_, rfl⟩
  rw [← hXC, ← hXD] at hz2
  have HXC := Lib.hid hXC
  have HXD := Lib.hid hXD
  have HR2 := Lib.hid hR2
  have HZ2 := Lib.hid hz2
  have HL1 := Lib.hid hL1
  have HL2 := Lib.hid hL2
  obtain ⟨ab, aoff, hao, hab, hc1⟩ : ∃ b off, ao = some ⟨b, off, none⟩ ∧ b < w.heap.size ∧ ∀ j, j < m → w.cell? ⟨b, off + j, none⟩ = some (.int .i64 (L1.getD j 0)) := by
    obtain ⟨_, _, he, _, _, _, h4⟩ := hI1
    simp only [Value.slice.injEq] at he
    obtain ⟨rfl, _, _⟩ := he
    obtain ⟨b, off, h5, h6, h7⟩ := h4 (by intro h; have := hmc.2.2.1; simp only at this; rw [h] at this; simp at this)
    exact ⟨b, off, h5, h6, by rw [← hL1]; exact h7⟩
  obtain ⟨bb, boff, hbo, hbb, hc2⟩ : ∃ b off, bo = some ⟨b, off, none⟩ ∧ b < w.heap.size ∧ ∀ j, j < n → w.cell? ⟨b, off + j, none⟩ = some (.int .i64 (L2.getD j 0)) := by
    obtain ⟨_, _, he, _, _, _, h4⟩ := hI2
    simp only [Value.slice.injEq] at he
    obtain ⟨rfl, _, _⟩ := he
    obtain ⟨b, off, h5, h6, h7⟩ := h4 (by intro h; have := hmd.2.2.1; simp only at this; rw [h] at this; simp at this)
    exact ⟨b, off, h5, h6, by rw [← hL2]; exact h7⟩
  subst hao hbo
  have HC1 := Lib.hid hc1
  have HC2 := Lib.hid hc2
  clear hzc hzd hzz hR2 hz2 hXC hXD hc1 hc2
  have G0 := Lib.hid (Q4.start w a1 a2 a3 a4 a5 a6 b1 b2 b3 b4 b5 b6 p1 (.slice (some ⟨ab, aoff, none⟩) m ca) p2 (.slice (some ⟨bb, boff, none⟩) n cb) 23 38)
  clear hfa hfb hma hmc hI1 hI2 hL1 hL2 hmb hmd
  go_enter Try.func7, Try.ntmps7
  go_wp2_with fail
  refine (HFA.out _).mono ?_
  rintro e w1 ⟨rfl, B1⟩
  have G1 := Lib.hid (G0.out.step B1)
  clear B1
  obtain ⟨e0, e1, e2, e3, e4, e5⟩ := G1.out.qb.cells
  go_wp2_with fail
  refine (HFB.out _).mono ?_
  rintro e w2 ⟨rfl, B2⟩
  have G2 := Lib.hid (G1.out.step B2)
  clear B2 e0 e1 e2 e3 e4 e5
  obtain ⟨x0, x1⟩ := G2.out.qc.cells
  obtain ⟨y0, y1⟩ := G2.out.qd.cells
  obtain ⟨e0, e1, e2, e3, e4, e5⟩ := G2.out.qa.cells
  go_wp2_with fail
  refine (HPA.out _).mono ?_
  rintro e w3 ⟨va, rfl, Oa, B3⟩
  have Ya := Lib.hid (byt_own Oa (Nat.le_refl _))
  obtain ⟨ra, ka, rfl⟩ := own_shape Oa
  have G3 := Lib.hid (G2.out.step B3)
  clear B3 e0 e1 e2 e3 e4 e5 Oa
  clear x0 x1 y0 y1
  obtain ⟨e0, e1, e2, e3, e4, e5⟩ := G3.out.qb.cells
  go_wp2_with fail
  refine (HPB.out _).mono ?_
  rintro e w4 ⟨rfl, B4⟩
  have G4 := Lib.hid (G3.out.step B4)
  have Ya4 := Lib.hid (Ya.out.keep B4)
  clear B4 e0 e1 e2 e3 e4 e5 
  have P0 : Q4 w w4.drew a1 a2 a3 a4 a5 a6 b1 b2 b3 b4 b5 b6 p1 (.slice (some ⟨ab, aoff, none⟩) m ca) p2 (.slice (some ⟨bb, boff, none⟩) n cb) := G4.out.step (Below.refl _ _).drew
  go_wp2_with fail
  refine region_quiet (fun v => Q4 w v a1 a2 a3 a4 a5 a6 b1 b2 b3 b4 b5 b6 p1 (.slice (some ⟨ab, aoff, none⟩) m ca) p2 (.slice (some ⟨bb, boff, none⟩) n cb)) (by kernel_rfl) (by kernel_rfl) P0 ?_
  repeat (first
    | go_big_quiet_skip
    | (go_big_quiet_want
       (refine quiet_run (v := ?_) ?_ ?_; rotate_left; (intro u hu; go_simp <;> with_reducible rfl); simp only [Act.put, List.setIfInBounds_toArray, List.set_cons_zero, List.set_cons_succ]; go_big_quiet_on)))
  refine wpQuiet_nil ?_
  intro w5 h5
  have G5 := Lib.hid h5
  clear P0 h5
  obtain ⟨x0, x1⟩ := G5.out.qc.cells
  go_wp2_with fail
  refine (HPC.out _ G5.out.bel).mono ?_
  rintro e w6 ⟨vc, rfl, Oc, B6⟩
  have Yc := Lib.hid (byt_own Oc (Nat.le_refl _))
  obtain ⟨rc, kc, rfl⟩ := own_shape Oc
  have G6 := Lib.hid (G5.out.step B6)
  clear B6 Oc x0 x1
  obtain ⟨x0, x1⟩ := G6.out.qd.cells
  go_wp2_with fail
  refine (HPD.out _ G6.out.bel).mono ?_
  rintro e w7 ⟨vd, rfl, Od, B7⟩
  have Yd := Lib.hid (byt_own Od (Nat.le_refl _))
  obtain ⟨rd, kd, rfl⟩ := own_shape Od
  have G7 := Lib.hid (G6.out.step B7)
  have Yc7 := Lib.hid (Yc.out.keep B7)
  have s67 := B7.size
  clear B7 Od x0 x1
  obtain ⟨x0, x1⟩ := G7.out.qc.cells
  obtain ⟨y0, y1⟩ := G7.out.qd.cells
  by_cases hpp : p1 = p2 ∧ m = n
  case neg =>
    have HR3 : Hid (R2 = false) := by
      show _ = _
      rw [HR2.out]
      refine decide_eq_false fun h => hpp ⟨h.1, ?_⟩
      rw [← HL1.out, ← HL2.out, h.2]
    have hcs : (p1 == p2) = false ∨ ((p1 == p2) = true ∧ ((m : Int) == (n : Int)) = false) := by
      by_cases h : p1 = p2
      · right
        exact ⟨by simp [h], by rw [beq_eq_false_iff_ne]; intro he; exact hpp ⟨h, by omega⟩⟩
      · left
        exact beq_eq_false_iff_ne.2 h
    have HBW : Hid (Below w.heap.size w w7) := G7.out.bel
    have HYC : Hid (Byt w7 w6.heap.size (.slice rc zc.length kc) zc) := Yc7.out
    have HYD : Hid (Byt w7 w7.heap.size (.slice rd zd.length kd) zd) := Yd.out
    have HSZ : Hid (w6.heap.size ≤ w7.heap.size) := s67
    clear hpp
    rcases hcs with hcs | ⟨hcs, hcs2⟩
    all_goals
      go_wp2
      refine wp_loop_rounds 1 ?_
      rw [rounds_succ]
      go_wp2_with fail
      refine (HT.out _).mono ?_
      rintro e w9 ⟨rfl, B9⟩
      have BB9 := Lib.hid B9
      have HB9 : Hid (Below w.heap.size w w9) := HBW.out.trans (B9.mono HBW.out.size)
      have kc9 : (convert 24 9 (.slice rc zc.length kc)).run Try.prog w9 = .ok (.string XC) w9 := by rw [HXC.out]; exact run_conv_byt ((HYC.out.keep (B9.mono (by have := HSZ.out; omega))))
      have kd9 : (convert 24 9 (.slice rd zd.length kd)).run Try.prog w9 = .ok (.string XD) w9 := by rw [HXD.out]; exact run_conv_byt ((HYD.out.keep (B9.mono (by have := HSZ.out; omega))))
      have hzf : (XC.toList == XD.toList) = false := by rw [HZ2.out, HR3.out]
      clear B9
      go_wp2
      go_returns
      exact ⟨rfl, HB9.out⟩
  obtain ⟨rfl, rfl⟩ := hpp
  go_wp2
  go_loopw [17, 18] (fun vs vi wr => ∃ i : Nat, i ≤ m ∧ vi = .int .i64 i ∧ vs = .bool (decide (L1.take i = L2.take i)) ∧ Below w7.heap.size w7 wr) (fun _ vi _ => m - (intOf vi).toNat)
  case atStart => exact ⟨0, by omega, rfl, rfl, Below.refl _ _⟩
  case round =>
    obtain ⟨i, hi, rfl, rfl, hbw⟩ := hrel
    have HBQ := Lib.hid hbw
    have HBW : Hid (Below w.heap.size w wr) := G7.out.bel.trans (hbw.mono G7.out.bel.size)
    have HYC : Hid (Byt wr w6.heap.size (.slice rc zc.length kc) zc) := Yc7.out.keep (hbw.mono s67)
    have HYD : Hid (Byt wr w7.heap.size (.slice rd zd.length kd) zd) := Yd.out.keep hbw
    have HSZ : Hid (w6.heap.size ≤ wr.heap.size ∧ w7.heap.size ≤ wr.heap.size) := ⟨by have := hbw.size; omega, hbw.size⟩
    have GW := Lib.hid (G7.out.step hbw)
    clear hbw x0 x1 y0 y1
    obtain ⟨x0, x1⟩ := GW.out.qc.cells
    obtain ⟨y0, y1⟩ := GW.out.qd.cells
    by_cases htk : L1.take i = L2.take i
    · have HTK := Lib.hid htk
      rw [decide_eq_true htk]
      clear htk
      by_cases hlt : i < m
      · obtain ⟨x, hx⟩ : ∃ x, x = L1.getD i 0 := ⟨_, rfl⟩
        obtain ⟨y, hy⟩ : ∃ y, y = L2.getD i 0 := ⟨_, rfl⟩
        have e1 : wr.cell? ⟨ab, aoff + i, none⟩ = some (.int .i64 x) := by rw [hx, ← HC1.out i hlt]; exact HBW.out.cell (p := ⟨ab, aoff + i, none⟩) hab
        have e2 : wr.cell? ⟨bb, boff + i, none⟩ = some (.int .i64 y) := by rw [hy, ← HC2.out i hlt]; exact HBW.out.cell (p := ⟨bb, boff + i, none⟩) hbb
        have T1 : Hid (L1.take (i + 1) = L1.take i ++ [x]) := by show _ = _; rw [hx]; exact take_snoc L1 i (by rw [HL1.out]; exact hlt)
        have T2 : Hid (L2.take (i + 1) = L2.take i ++ [y]) := by show _ = _; rw [hy]; exact take_snoc L2 i (by rw [HL2.out]; exact hlt)
        have HXYZ : Hid ((x == y) = decide (L1.take (i + 1) = L2.take (i + 1))) := by
          show _ = _
          rw [T1.out, T2.out, HTK.out, Bool.eq_iff_iff]
          simp
        have i0 : (0 : Int) ≤ (i : Int) := by omega
        have i1 : (i : Int) < (m : Int) := by omega
        clear hx hy
        go_wp2
        go_quiet (fail)
        go_wp2
        go_roundw
        case rel => exact ⟨i + 1, by omega, by go_num, by rw [HXYZ.out], below_drewN HBQ.out _⟩
        case measure => simp [intOf]; omega
      · have him : i = m := by omega
        have HR3 : Hid (R2 = true) := by
          show _ = _
          rw [HR2.out]
          refine decide_eq_true ⟨by trivial, ?_⟩
          have := HTK.out
          rwa [List.take_of_length_le (by rw [HL1.out]; omega), List.take_of_length_le (by rw [HL2.out]; omega)] at this
        clear him
        go_wp2_with fail
        refine (HT.out _).mono ?_
        rintro e w9 ⟨rfl, B9⟩
        have BB9 := Lib.hid B9
        have HB9 : Hid (Below w.heap.size w w9) := HBW.out.trans (B9.mono HBW.out.size)
        have kc9 : (convert 24 9 (.slice rc zc.length kc)).run Try.prog w9 = .ok (.string XC) w9 := by rw [HXC.out]; exact run_conv_byt ((HYC.out.keep (B9.mono (by have := HSZ.out; omega))))
        have kd9 : (convert 24 9 (.slice rd zd.length kd)).run Try.prog w9 = .ok (.string XD) w9 := by rw [HXD.out]; exact run_conv_byt ((HYD.out.keep (B9.mono (by have := HSZ.out; omega))))
        have hzf : (XC.toList == XD.toList) = true := by rw [HZ2.out, HR3.out]
        clear B9
        go_wp2
        go_returns
        exact ⟨rfl, HB9.out⟩
    · have HR3 : Hid (R2 = false) := by
        show _ = _
        rw [HR2.out]
        refine decide_eq_false fun h => htk ?_
        rw [h.2]
      rw [decide_eq_false htk]
      clear htk
      go_wp2_with fail
      refine (HT.out _).mono ?_
      rintro e w9 ⟨rfl, B9⟩
      have BB9 := Lib.hid B9
      have HB9 : Hid (Below w.heap.size w w9) := HBW.out.trans (B9.mono HBW.out.size)
      have kc9 : (convert 24 9 (.slice rc zc.length kc)).run Try.prog w9 = .ok (.string XC) w9 := by rw [HXC.out]; exact run_conv_byt ((HYC.out.keep (B9.mono (by have := HSZ.out; omega))))
      have kd9 : (convert 24 9 (.slice rd zd.length kd)).run Try.prog w9 = .ok (.string XD) w9 := by rw [HXD.out]; exact run_conv_byt ((HYD.out.keep (B9.mono (by have := HSZ.out; omega))))
      have hzf : (XC.toList == XD.toList) = false := by rw [HZ2.out, HR3.out]
      clear B9
      go_wp2
      go_returns
      exact ⟨rfl, HB9.out⟩

set_option maxHeartbeats 2000000 in
set_option maxRecDepth 100000 in
theorem go_ynyn (a1 a2 a3 a4 a5 : Int) (a6 : ByteArray) (b1 b2 b3 b4 b5 : Int) (b6 : ByteArray) (p1 p2 : Int) (ao bo : Option Addr) (m n ca cb : Nat) (w : World) (hda : a6.size ≤ 9223372036854775807) (hdb : b6.size ≤ 9223372036854775807) (hfa : a6.size ≤ 300) (hfb : b6.size ≤ 300) (hm8 : m ≤ 8) (hn8 : n ≤ 8) (L1 L2 : List Int) (_ : L1.length = m) (_ : L2.length = n) (hI1 : Ints w w.heap.size (.slice ao m ca) L1) (hI2 : Ints w w.heap.size (.slice bo n cb) L2) (hma : ReqV.may ⟨a1, a2, a3, a4, a5, a6⟩) (hmb : ¬ ReqV.may ⟨b1, b2, b3, b4, b5, b6⟩) (hmc : ChainV.may ⟨p1, L1⟩) (hmd : ¬ ChainV.may ⟨p2, L2⟩) :
    Calls Try.prog 7 #[.agg #[.int .i64 a1, .int .i64 a2, .int .i64 a3, .int .i64 a4, .int .i64 a5, .string a6], .agg #[.int .i64 b1, .int .i64 b2, .int .i64 b3, .int .i64 b4, .int .i64 b5, .string b6], .agg #[.int .i64 p1, .slice ao m ca], .agg #[.int .i64 p2, .slice bo n cb]] w fun e w' => e = .returned (.bool true) ∧ Below w.heap.size w w' := by
  have HT := Lib.hid (fun u => told2_any u)
  have HFA := Lib.hid (fun u => few_any a1 a2 a3 a4 a5 a6 hda true (show _ = _ from (decide_eq_true hfa).symm) u)
  have HFB := Lib.hid (fun u => few_any b1 b2 b3 b4 b5 b6 hdb true (show _ = _ from (decide_eq_true hfb).symm) u)
  have HPA := Lib.hid (fun u => put_any a1 a2 a3 a4 a5 a6 hma u)
  have HPB := Lib.hid (fun u => putreq_no b1 b2 b3 b4 b5 b6 hdb hmb u)
  have HPC : Hid (∀ u, Below w.heap.size w u → Calls Try.prog 20 #[.agg #[.int .i64 p1, .slice ao m ca]] u fun e w' => ∃ v', e = .returned (.tuple #[v', .int .i64 0]) ∧
      w'.ownsRow u.heap.size 5 1 v' (ChainV.bytes ⟨p1, L1⟩).length (Lib.byteCells (ChainV.bytes ⟨p1, L1⟩)) ∧ Below u.heap.size u w') := fun u hu => putchain_yes p1 _ L1 w.heap.size u (hI1.keep hu) hu.size hmc
  have HPD : Hid (∀ u, Below w.heap.size w u → Calls Try.prog 20 #[.agg #[.int .i64 p2, .slice bo n cb]] u fun e w' => e = .returned (.tuple #[.slice none 0 0, .int .i64 1]) ∧ Below u.heap.size u w') := fun u hu => putchain_no p2 _ L2 w.heap.size u (hI2.keep hu) hu.size hmd
  have G0 := Lib.hid (Q4.start w a1 a2 a3 a4 a5 a6 b1 b2 b3 b4 b5 b6 p1 (.slice ao m ca) p2 (.slice bo n cb) 23 38)
  clear hfa hfb hma hmc hI1 hI2 hmb hmd
  go_enter Try.func7, Try.ntmps7
  go_wp2_with fail
  refine (HFA.out _).mono ?_
  rintro e w1 ⟨rfl, B1⟩
  have G1 := Lib.hid (G0.out.step B1)
  clear B1
  obtain ⟨e0, e1, e2, e3, e4, e5⟩ := G1.out.qb.cells
  go_wp2_with fail
  refine (HFB.out _).mono ?_
  rintro e w2 ⟨rfl, B2⟩
  have G2 := Lib.hid (G1.out.step B2)
  clear B2 e0 e1 e2 e3 e4 e5
  obtain ⟨x0, x1⟩ := G2.out.qc.cells
  obtain ⟨y0, y1⟩ := G2.out.qd.cells
  obtain ⟨e0, e1, e2, e3, e4, e5⟩ := G2.out.qa.cells
  go_wp2_with fail
  refine (HPA.out _).mono ?_
  rintro e w3 ⟨va, rfl, Oa, B3⟩
  have Ya := Lib.hid (byt_own Oa (Nat.le_refl _))
  obtain ⟨ra, ka, rfl⟩ := own_shape Oa
  have G3 := Lib.hid (G2.out.step B3)
  clear B3 e0 e1 e2 e3 e4 e5 Oa
  clear x0 x1 y0 y1
  obtain ⟨e0, e1, e2, e3, e4, e5⟩ := G3.out.qb.cells
  go_wp2_with fail
  refine (HPB.out _).mono ?_
  rintro e w4 ⟨rfl, B4⟩
  have G4 := Lib.hid (G3.out.step B4)
  have Ya4 := Lib.hid (Ya.out.keep B4)
  clear B4 e0 e1 e2 e3 e4 e5 
  have P0 : Q4 w w4.drew a1 a2 a3 a4 a5 a6 b1 b2 b3 b4 b5 b6 p1 (.slice ao m ca) p2 (.slice bo n cb) := G4.out.step (Below.refl _ _).drew
  go_wp2_with fail
  refine region_quiet (fun v => Q4 w v a1 a2 a3 a4 a5 a6 b1 b2 b3 b4 b5 b6 p1 (.slice ao m ca) p2 (.slice bo n cb)) (by kernel_rfl) (by kernel_rfl) P0 ?_
  repeat (first
    | go_big_quiet_skip
    | (go_big_quiet_want
       (refine quiet_run (v := ?_) ?_ ?_; rotate_left; (intro u hu; go_simp <;> with_reducible rfl); simp only [Act.put, List.setIfInBounds_toArray, List.set_cons_zero, List.set_cons_succ]; go_big_quiet_on)))
  refine wpQuiet_nil ?_
  intro w5 h5
  have G5 := Lib.hid h5
  clear P0 h5
  obtain ⟨x0, x1⟩ := G5.out.qc.cells
  go_wp2_with fail
  refine (HPC.out _ G5.out.bel).mono ?_
  rintro e w6 ⟨vc, rfl, Oc, B6⟩
  have Yc := Lib.hid (byt_own Oc (Nat.le_refl _))
  obtain ⟨rc, kc, rfl⟩ := own_shape Oc
  have G6 := Lib.hid (G5.out.step B6)
  clear B6 Oc x0 x1
  obtain ⟨x0, x1⟩ := G6.out.qd.cells
  go_wp2_with fail
  refine (HPD.out _ G6.out.bel).mono ?_
  rintro e w7 ⟨rfl, B7⟩
  have G7 := Lib.hid (G6.out.step B7)
  clear B7 x0 x1
  go_wp2_with fail
  refine (HT.out _).mono ?_
  rintro e wt ⟨rfl, BT⟩
  have GT := Lib.hid (G7.out.step BT)
  clear BT
  go_wp2
  go_returns
  exact ⟨rfl, GT.out.bel⟩

set_option maxHeartbeats 2000000 in
set_option maxRecDepth 100000 in
theorem go_ynnx (a1 a2 a3 a4 a5 : Int) (a6 : ByteArray) (b1 b2 b3 b4 b5 : Int) (b6 : ByteArray) (p1 p2 : Int) (ao bo : Option Addr) (m n ca cb : Nat) (w : World) (hda : a6.size ≤ 9223372036854775807) (hdb : b6.size ≤ 9223372036854775807) (hfa : a6.size ≤ 300) (hfb : b6.size ≤ 300) (hm8 : m ≤ 8) (hn8 : n ≤ 8) (L1 L2 : List Int) (_ : L1.length = m) (_ : L2.length = n) (hI1 : Ints w w.heap.size (.slice ao m ca) L1) (hI2 : Ints w w.heap.size (.slice bo n cb) L2) (hma : ReqV.may ⟨a1, a2, a3, a4, a5, a6⟩) (hmb : ¬ ReqV.may ⟨b1, b2, b3, b4, b5, b6⟩) (hmc : ¬ ChainV.may ⟨p1, L1⟩) :
    Calls Try.prog 7 #[.agg #[.int .i64 a1, .int .i64 a2, .int .i64 a3, .int .i64 a4, .int .i64 a5, .string a6], .agg #[.int .i64 b1, .int .i64 b2, .int .i64 b3, .int .i64 b4, .int .i64 b5, .string b6], .agg #[.int .i64 p1, .slice ao m ca], .agg #[.int .i64 p2, .slice bo n cb]] w fun e w' => e = .returned (.bool true) ∧ Below w.heap.size w w' := by
  have HT := Lib.hid (fun u => told2_any u)
  have HFA := Lib.hid (fun u => few_any a1 a2 a3 a4 a5 a6 hda true (show _ = _ from (decide_eq_true hfa).symm) u)
  have HFB := Lib.hid (fun u => few_any b1 b2 b3 b4 b5 b6 hdb true (show _ = _ from (decide_eq_true hfb).symm) u)
  have HPA := Lib.hid (fun u => put_any a1 a2 a3 a4 a5 a6 hma u)
  have HPB := Lib.hid (fun u => putreq_no b1 b2 b3 b4 b5 b6 hdb hmb u)
  have HPC : Hid (∀ u, Below w.heap.size w u → Calls Try.prog 20 #[.agg #[.int .i64 p1, .slice ao m ca]] u fun e w' => e = .returned (.tuple #[.slice none 0 0, .int .i64 1]) ∧ Below u.heap.size u w') := fun u hu => putchain_no p1 _ L1 w.heap.size u (hI1.keep hu) hu.size hmc
  obtain ⟨ed, hed⟩ : ∃ ed : Int, ∀ u, Below w.heap.size w u → Calls Try.prog 20 #[.agg #[.int .i64 p2, .slice bo n cb]] u fun e w' => ∃ rd kd ld, e = .returned (.tuple #[.slice rd ld kd, .int .i64 ed]) ∧ Below u.heap.size u w' := by
    by_cases hmd : ChainV.may ⟨p2, L2⟩
    · refine ⟨0, fun u hu => (putchain_yes p2 _ L2 w.heap.size u (hI2.keep hu) hu.size hmd).mono ?_⟩
      rintro e w' ⟨v, rfl, ho, hb⟩
      obtain ⟨r, k, rfl⟩ := own_shape ho
      exact ⟨r, k, _, rfl, hb⟩
    · refine ⟨1, fun u hu => (putchain_no p2 _ L2 w.heap.size u (hI2.keep hu) hu.size hmd).mono ?_⟩
      rintro e w' ⟨rfl, hb⟩
      exact ⟨none, 0, 0, rfl, hb⟩
  have HPD := Lib.hid hed
  clear hed
  have G0 := Lib.hid (Q4.start w a1 a2 a3 a4 a5 a6 b1 b2 b3 b4 b5 b6 p1 (.slice ao m ca) p2 (.slice bo n cb) 23 38)
  clear hfa hfb hma hmc hI1 hI2 hmb
  go_enter Try.func7, Try.ntmps7
  go_wp2_with fail
  refine (HFA.out _).mono ?_
  rintro e w1 ⟨rfl, B1⟩
  have G1 := Lib.hid (G0.out.step B1)
  clear B1
  obtain ⟨e0, e1, e2, e3, e4, e5⟩ := G1.out.qb.cells
  go_wp2_with fail
  refine (HFB.out _).mono ?_
  rintro e w2 ⟨rfl, B2⟩
  have G2 := Lib.hid (G1.out.step B2)
  clear B2 e0 e1 e2 e3 e4 e5
  obtain ⟨x0, x1⟩ := G2.out.qc.cells
  obtain ⟨y0, y1⟩ := G2.out.qd.cells
  obtain ⟨e0, e1, e2, e3, e4, e5⟩ := G2.out.qa.cells
  go_wp2_with fail
  refine (HPA.out _).mono ?_
  rintro e w3 ⟨va, rfl, Oa, B3⟩
  have Ya := Lib.hid (byt_own Oa (Nat.le_refl _))
  obtain ⟨ra, ka, rfl⟩ := own_shape Oa
  have G3 := Lib.hid (G2.out.step B3)
  clear B3 e0 e1 e2 e3 e4 e5 Oa
  clear x0 x1 y0 y1
  obtain ⟨e0, e1, e2, e3, e4, e5⟩ := G3.out.qb.cells
  go_wp2_with fail
  refine (HPB.out _).mono ?_
  rintro e w4 ⟨rfl, B4⟩
  have G4 := Lib.hid (G3.out.step B4)
  have Ya4 := Lib.hid (Ya.out.keep B4)
  clear B4 e0 e1 e2 e3 e4 e5 
  have P0 : Q4 w w4.drew a1 a2 a3 a4 a5 a6 b1 b2 b3 b4 b5 b6 p1 (.slice ao m ca) p2 (.slice bo n cb) := G4.out.step (Below.refl _ _).drew
  go_wp2_with fail
  refine region_quiet (fun v => Q4 w v a1 a2 a3 a4 a5 a6 b1 b2 b3 b4 b5 b6 p1 (.slice ao m ca) p2 (.slice bo n cb)) (by kernel_rfl) (by kernel_rfl) P0 ?_
  repeat (first
    | go_big_quiet_skip
    | (go_big_quiet_want
       (refine quiet_run (v := ?_) ?_ ?_; rotate_left; (intro u hu; go_simp <;> with_reducible rfl); simp only [Act.put, List.setIfInBounds_toArray, List.set_cons_zero, List.set_cons_succ]; go_big_quiet_on)))
  refine wpQuiet_nil ?_
  intro w5 h5
  have G5 := Lib.hid h5
  clear P0 h5
  obtain ⟨x0, x1⟩ := G5.out.qc.cells
  go_wp2_with fail
  refine (HPC.out _ G5.out.bel).mono ?_
  rintro e w6 ⟨rfl, B6⟩
  have G6 := Lib.hid (G5.out.step B6)
  clear B6 x0 x1
  obtain ⟨x0, x1⟩ := G6.out.qd.cells
  go_wp2_with fail
  refine (HPD.out _ G6.out.bel).mono ?_
  rintro e w7 ⟨rd, kd, ld, rfl, B7⟩
  have G7 := Lib.hid (G6.out.step B7)
  clear B7 x0 x1
  go_wp2_with fail
  refine (HT.out _).mono ?_
  rintro e wt ⟨rfl, BT⟩
  have GT := Lib.hid (G7.out.step BT)
  clear BT
  go_wp2
  go_returns
  exact ⟨rfl, GT.out.bel⟩

set_option maxHeartbeats 2000000 in
set_option maxRecDepth 100000 in
theorem go_nxyy (a1 a2 a3 a4 a5 : Int) (a6 : ByteArray) (b1 b2 b3 b4 b5 : Int) (b6 : ByteArray) (p1 p2 : Int) (ao bo : Option Addr) (m n ca cb : Nat) (w : World) (hda : a6.size ≤ 9223372036854775807) (hdb : b6.size ≤ 9223372036854775807) (hfa : a6.size ≤ 300) (hfb : b6.size ≤ 300) (hm8 : m ≤ 8) (hn8 : n ≤ 8) (L1 L2 : List Int) (hL1 : L1.length = m) (hL2 : L2.length = n) (hI1 : Ints w w.heap.size (.slice ao m ca) L1) (hI2 : Ints w w.heap.size (.slice bo n cb) L2) (hma : ¬ ReqV.may ⟨a1, a2, a3, a4, a5, a6⟩) (hmc : ChainV.may ⟨p1, L1⟩) (hmd : ChainV.may ⟨p2, L2⟩) :
    Calls Try.prog 7 #[.agg #[.int .i64 a1, .int .i64 a2, .int .i64 a3, .int .i64 a4, .int .i64 a5, .string a6], .agg #[.int .i64 b1, .int .i64 b2, .int .i64 b3, .int .i64 b4, .int .i64 b5, .string b6], .agg #[.int .i64 p1, .slice ao m ca], .agg #[.int .i64 p2, .slice bo n cb]] w fun e w' => e = .returned (.bool true) ∧ Below w.heap.size w w' := by
  have HT := Lib.hid (fun u => told2_any u)
  have HFA := Lib.hid (fun u => few_any a1 a2 a3 a4 a5 a6 hda true (show _ = _ from (decide_eq_true hfa).symm) u)
  have HFB := Lib.hid (fun u => few_any b1 b2 b3 b4 b5 b6 hdb true (show _ = _ from (decide_eq_true hfb).symm) u)
  have HPA := Lib.hid (fun u => putreq_no a1 a2 a3 a4 a5 a6 hda hma u)
  obtain ⟨eb, heb⟩ : ∃ eb : Int, ∀ u, Calls Try.prog 12 #[.agg #[.int .i64 b1, .int .i64 b2, .int .i64 b3, .int .i64 b4, .int .i64 b5, .string b6]] u fun e w' => ∃ rb kb lb, e = .returned (.tuple #[.slice rb lb kb, .int .i64 eb]) ∧ Below u.heap.size u w' := by
    by_cases hmb : ReqV.may ⟨b1, b2, b3, b4, b5, b6⟩
    · refine ⟨0, fun u => (put_any b1 b2 b3 b4 b5 b6 hmb u).mono ?_⟩
      rintro e w' ⟨v, rfl, ho, hb⟩
      obtain ⟨r, k, rfl⟩ := own_shape ho
      exact ⟨r, k, _, rfl, hb⟩
    · refine ⟨1, fun u => (putreq_no b1 b2 b3 b4 b5 b6 hdb hmb u).mono ?_⟩
      rintro e w' ⟨rfl, hb⟩
      exact ⟨none, 0, 0, rfl, hb⟩
  have HPB := Lib.hid heb
  clear heb
  have HPC : Hid (∀ u, Below w.heap.size w u → Calls Try.prog 20 #[.agg #[.int .i64 p1, .slice ao m ca]] u fun e w' => ∃ v', e = .returned (.tuple #[v', .int .i64 0]) ∧
      w'.ownsRow u.heap.size 5 1 v' (ChainV.bytes ⟨p1, L1⟩).length (Lib.byteCells (ChainV.bytes ⟨p1, L1⟩)) ∧ Below u.heap.size u w') := fun u hu => putchain_yes p1 _ L1 w.heap.size u (hI1.keep hu) hu.size hmc
  have HPD : Hid (∀ u, Below w.heap.size w u → Calls Try.prog 20 #[.agg #[.int .i64 p2, .slice bo n cb]] u fun e w' => ∃ v', e = .returned (.tuple #[v', .int .i64 0]) ∧
      w'.ownsRow u.heap.size 5 1 v' (ChainV.bytes ⟨p2, L2⟩).length (Lib.byteCells (ChainV.bytes ⟨p2, L2⟩)) ∧ Below u.heap.size u w') := fun u hu => putchain_yes p2 _ L2 w.heap.size u (hI2.keep hu) hu.size hmd
  obtain ⟨zc, hzc⟩ : ∃ x, x = ChainV.bytes ⟨p1, L1⟩ := ⟨_, rfl⟩
  obtain ⟨zd, hzd⟩ : ∃ x, x = ChainV.bytes ⟨p2, L2⟩ := ⟨_, rfl⟩
  have hzz : decide (zc = zd) = decide (p1 = p2 ∧ L1 = L2) := by
    rw [decide_eq_decide]
    constructor
    · intro h
      have c1 := ChainV.got_chain ⟨p1, L1⟩ hmc
      have c2 := ChainV.got_chain ⟨p2, L2⟩ hmd
      have := chain_apart (ChainV.got ⟨p1, L1⟩) (ChainV.got ⟨p2, L2⟩) (by rw [c1]; exact hmc) (by rw [c2]; exact hmd) (by rw [ChainV.got_bytes, ChainV.got_bytes, ← hzc, ← hzd, h])
      rw [this, c2] at c1
      simp only [ChainV.mk.injEq] at c1
      exact ⟨c1.1.symm, c1.2.symm⟩
    · rintro ⟨rfl, rfl⟩
      rw [hzc, hzd]
  rw [← hzc] at HPC
  rw [← hzd] at HPD
  obtain ⟨R2, hR2⟩ : ∃ R, R = decide (p1 = p2 ∧ L1 = L2) := ⟨_, rfl⟩
  have hz2 := txt_eq zc zd
  rw [hzz, ← hR2] at hz2
  obtain ⟨XC, hXC⟩ : ∃ x, x = txt zc := ⟨_, rfl⟩
  obtain ⟨XD, hXD⟩ : ∃ x, x = txt zd := ⟨_, rfl⟩
  rw [← hXC, ← hXD] at hz2
  have HXC := Lib.hid hXC
  have HXD := Lib.hid hXD
  have HR2 := Lib.hid hR2
  have HZ2 := Lib.hid hz2
  have HL1 := Lib.hid hL1
  have HL2 := Lib.hid hL2
  obtain ⟨ab, aoff, hao, hab, hc1⟩ : ∃ b off, ao = some ⟨b, off, none⟩ ∧ b < w.heap.size ∧ ∀ j, j < m → w.cell? ⟨b, off + j, none⟩ = some (.int .i64 (L1.getD j 0)) := by
    obtain ⟨_, _, he, _, _, _, h4⟩ := hI1
    simp only [Value.slice.injEq] at he
    obtain ⟨rfl, _, _⟩ := he
    obtain ⟨b, off, h5, h6, h7⟩ := h4 (by intro h; have := hmc.2.2.1; simp only at this; rw [h] at this; simp at this)
    exact ⟨b, off, h5, h6, by rw [← hL1]; exact h7⟩
  obtain ⟨bb, boff, hbo, hbb, hc2⟩ : ∃ b off, bo = some ⟨b, off, none⟩ ∧ b < w.heap.size ∧ ∀ j, j < n → w.cell? ⟨b, off + j, none⟩ = some (.int .i64 (L2.getD j 0)) := by
    obtain ⟨_, _, he, _, _, _, h4⟩ := hI2
    simp only [Value.slice.injEq] at he
    obtain ⟨rfl, _, _⟩ := he
    obtain ⟨b, off, h5, h6, h7⟩ := h4 (by intro h; have := hmd.2.2.1; simp only at this; rw [h] at this; simp at this)
    exact ⟨b, off, h5, h6, by rw [← hL2]; exact h7⟩
  subst hao hbo
  have HC1 := Lib.hid hc1
  have HC2 := Lib.hid hc2
  clear hzc hzd hzz hR2 hz2 hXC hXD hc1 hc2
  have G0 := Lib.hid (Q4.start w a1 a2 a3 a4 a5 a6 b1 b2 b3 b4 b5 b6 p1 (.slice (some ⟨ab, aoff, none⟩) m ca) p2 (.slice (some ⟨bb, boff, none⟩) n cb) 23 38)
  clear hfa hfb hma hmc hI1 hI2 hL1 hL2 hmd
  go_enter Try.func7, Try.ntmps7
  go_wp2_with fail
  refine (HFA.out _).mono ?_
  rintro e w1 ⟨rfl, B1⟩
  have G1 := Lib.hid (G0.out.step B1)
  clear B1
  obtain ⟨e0, e1, e2, e3, e4, e5⟩ := G1.out.qb.cells
  go_wp2_with fail
  refine (HFB.out _).mono ?_
  rintro e w2 ⟨rfl, B2⟩
  have G2 := Lib.hid (G1.out.step B2)
  clear B2 e0 e1 e2 e3 e4 e5
  obtain ⟨x0, x1⟩ := G2.out.qc.cells
  obtain ⟨y0, y1⟩ := G2.out.qd.cells
  obtain ⟨e0, e1, e2, e3, e4, e5⟩ := G2.out.qa.cells
  go_wp2_with fail
  refine (HPA.out _).mono ?_
  rintro e w3 ⟨rfl, B3⟩
  have G3 := Lib.hid (G2.out.step B3)
  clear B3 e0 e1 e2 e3 e4 e5 
  clear x0 x1 y0 y1
  obtain ⟨e0, e1, e2, e3, e4, e5⟩ := G3.out.qb.cells
  go_wp2_with fail
  refine (HPB.out _).mono ?_
  rintro e w4 ⟨rb, kb, lb, rfl, B4⟩
  have G4 := Lib.hid (G3.out.step B4)
  clear B4 e0 e1 e2 e3 e4 e5
  have P0 : Q4 w w4.drew a1 a2 a3 a4 a5 a6 b1 b2 b3 b4 b5 b6 p1 (.slice (some ⟨ab, aoff, none⟩) m ca) p2 (.slice (some ⟨bb, boff, none⟩) n cb) := G4.out.step (Below.refl _ _).drew
  go_wp2_with fail
  refine region_quiet (fun v => Q4 w v a1 a2 a3 a4 a5 a6 b1 b2 b3 b4 b5 b6 p1 (.slice (some ⟨ab, aoff, none⟩) m ca) p2 (.slice (some ⟨bb, boff, none⟩) n cb)) (by kernel_rfl) (by kernel_rfl) P0 ?_
  repeat (first
    | go_big_quiet_skip
    | (go_big_quiet_want
       (refine quiet_run (v := ?_) ?_ ?_; rotate_left; (intro u hu; go_simp <;> with_reducible rfl); simp only [Act.put, List.setIfInBounds_toArray, List.set_cons_zero, List.set_cons_succ]; go_big_quiet_on)))
  refine wpQuiet_nil ?_
  intro w5 h5
  have G5 := Lib.hid h5
  clear P0 h5
  obtain ⟨x0, x1⟩ := G5.out.qc.cells
  go_wp2_with fail
  refine (HPC.out _ G5.out.bel).mono ?_
  rintro e w6 ⟨vc, rfl, Oc, B6⟩
  have Yc := Lib.hid (byt_own Oc (Nat.le_refl _))
  obtain ⟨rc, kc, rfl⟩ := own_shape Oc
  have G6 := Lib.hid (G5.out.step B6)
  clear B6 Oc x0 x1
  obtain ⟨x0, x1⟩ := G6.out.qd.cells
  go_wp2_with fail
  refine (HPD.out _ G6.out.bel).mono ?_
  rintro e w7 ⟨vd, rfl, Od, B7⟩
  have Yd := Lib.hid (byt_own Od (Nat.le_refl _))
  obtain ⟨rd, kd, rfl⟩ := own_shape Od
  have G7 := Lib.hid (G6.out.step B7)
  have Yc7 := Lib.hid (Yc.out.keep B7)
  have s67 := B7.size
  clear B7 Od x0 x1
  obtain ⟨x0, x1⟩ := G7.out.qc.cells
  obtain ⟨y0, y1⟩ := G7.out.qd.cells
  by_cases hpp : p1 = p2 ∧ m = n
  case neg =>
    have HR3 : Hid (R2 = false) := by
      show _ = _
      rw [HR2.out]
      refine decide_eq_false fun h => hpp ⟨h.1, ?_⟩
      rw [← HL1.out, ← HL2.out, h.2]
    have hcs : (p1 == p2) = false ∨ ((p1 == p2) = true ∧ ((m : Int) == (n : Int)) = false) := by
      by_cases h : p1 = p2
      · right
        exact ⟨by simp [h], by rw [beq_eq_false_iff_ne]; intro he; exact hpp ⟨h, by omega⟩⟩
      · left
        exact beq_eq_false_iff_ne.2 h
    have HBW : Hid (Below w.heap.size w w7) := G7.out.bel
    have HYC : Hid (Byt w7 w6.heap.size (.slice rc zc.length kc) zc) := Yc7.out
    have HYD : Hid (Byt w7 w7.heap.size (.slice rd zd.length kd) zd) := Yd.out
    have HSZ : Hid (w6.heap.size ≤ w7.heap.size) := s67
    clear hpp
    rcases hcs with hcs | ⟨hcs, hcs2⟩
    all_goals
      go_wp2
      refine wp_loop_rounds 1 ?_
      rw [rounds_succ]
      go_wp2_with fail
      refine (HT.out _).mono ?_
      rintro e w9 ⟨rfl, B9⟩
      have BB9 := Lib.hid B9
      have HB9 : Hid (Below w.heap.size w w9) := HBW.out.trans (B9.mono HBW.out.size)
      have kc9 : (convert 24 9 (.slice rc zc.length kc)).run Try.prog w9 = .ok (.string XC) w9 := by rw [HXC.out]; exact run_conv_byt ((HYC.out.keep (B9.mono (by have := HSZ.out; omega))))
      have kd9 : (convert 24 9 (.slice rd zd.length kd)).run Try.prog w9 = .ok (.string XD) w9 := by rw [HXD.out]; exact run_conv_byt ((HYD.out.keep (B9.mono (by have := HSZ.out; omega))))
      have hzf : (XC.toList == XD.toList) = false := by rw [HZ2.out, HR3.out]
      clear B9
      go_wp2
      go_returns
      exact ⟨rfl, HB9.out⟩
  obtain ⟨rfl, rfl⟩ := hpp
  go_wp2
  go_loopw [17, 18] (fun vs vi wr => ∃ i : Nat, i ≤ m ∧ vi = .int .i64 i ∧ vs = .bool (decide (L1.take i = L2.take i)) ∧ Below w7.heap.size w7 wr) (fun _ vi _ => m - (intOf vi).toNat)
  case atStart => exact ⟨0, by omega, rfl, rfl, Below.refl _ _⟩
  case round =>
    obtain ⟨i, hi, rfl, rfl, hbw⟩ := hrel
    have HBQ := Lib.hid hbw
    have HBW : Hid (Below w.heap.size w wr) := G7.out.bel.trans (hbw.mono G7.out.bel.size)
    have HYC : Hid (Byt wr w6.heap.size (.slice rc zc.length kc) zc) := Yc7.out.keep (hbw.mono s67)
    have HYD : Hid (Byt wr w7.heap.size (.slice rd zd.length kd) zd) := Yd.out.keep hbw
    have HSZ : Hid (w6.heap.size ≤ wr.heap.size ∧ w7.heap.size ≤ wr.heap.size) := ⟨by have := hbw.size; omega, hbw.size⟩
    have GW := Lib.hid (G7.out.step hbw)
    clear hbw x0 x1 y0 y1
    obtain ⟨x0, x1⟩ := GW.out.qc.cells
    obtain ⟨y0, y1⟩ := GW.out.qd.cells
    by_cases htk : L1.take i = L2.take i
    · have HTK := Lib.hid htk
      rw [decide_eq_true htk]
      clear htk
      by_cases hlt : i < m
      · obtain ⟨x, hx⟩ : ∃ x, x = L1.getD i 0 := ⟨_, rfl⟩
        obtain ⟨y, hy⟩ : ∃ y, y = L2.getD i 0 := ⟨_, rfl⟩
        have e1 : wr.cell? ⟨ab, aoff + i, none⟩ = some (.int .i64 x) := by rw [hx, ← HC1.out i hlt]; exact HBW.out.cell (p := ⟨ab, aoff + i, none⟩) hab
        have e2 : wr.cell? ⟨bb, boff + i, none⟩ = some (.int .i64 y) := by rw [hy, ← HC2.out i hlt]; exact HBW.out.cell (p := ⟨bb, boff + i, none⟩) hbb
        have T1 : Hid (L1.take (i + 1) = L1.take i ++ [x]) := by show _ = _; rw [hx]; exact take_snoc L1 i (by rw [HL1.out]; exact hlt)
        have T2 : Hid (L2.take (i + 1) = L2.take i ++ [y]) := by show _ = _; rw [hy]; exact take_snoc L2 i (by rw [HL2.out]; exact hlt)
        have HXYZ : Hid ((x == y) = decide (L1.take (i + 1) = L2.take (i + 1))) := by
          show _ = _
          rw [T1.out, T2.out, HTK.out, Bool.eq_iff_iff]
          simp
        have i0 : (0 : Int) ≤ (i : Int) := by omega
        have i1 : (i : Int) < (m : Int) := by omega
        clear hx hy
        go_wp2
        go_quiet (fail)
        go_wp2
        go_roundw
        case rel => exact ⟨i + 1, by omega, by go_num, by rw [HXYZ.out], below_drewN HBQ.out _⟩
        case measure => simp [intOf]; omega
      · have him : i = m := by omega
        have HR3 : Hid (R2 = true) := by
          show _ = _
          rw [HR2.out]
          refine decide_eq_true ⟨by trivial, ?_⟩
          have := HTK.out
          rwa [List.take_of_length_le (by rw [HL1.out]; omega), List.take_of_length_le (by rw [HL2.out]; omega)] at this
        clear him
        go_wp2_with fail
        refine (HT.out _).mono ?_
        rintro e w9 ⟨rfl, B9⟩
        have BB9 := Lib.hid B9
        have HB9 : Hid (Below w.heap.size w w9) := HBW.out.trans (B9.mono HBW.out.size)
        have kc9 : (convert 24 9 (.slice rc zc.length kc)).run Try.prog w9 = .ok (.string XC) w9 := by rw [HXC.out]; exact run_conv_byt ((HYC.out.keep (B9.mono (by have := HSZ.out; omega))))
        have kd9 : (convert 24 9 (.slice rd zd.length kd)).run Try.prog w9 = .ok (.string XD) w9 := by rw [HXD.out]; exact run_conv_byt ((HYD.out.keep (B9.mono (by have := HSZ.out; omega))))
        have hzf : (XC.toList == XD.toList) = true := by rw [HZ2.out, HR3.out]
        clear B9
        go_wp2
        go_returns
        exact ⟨rfl, HB9.out⟩
    · have HR3 : Hid (R2 = false) := by
        show _ = _
        rw [HR2.out]
        refine decide_eq_false fun h => htk ?_
        rw [h.2]
      rw [decide_eq_false htk]
      clear htk
      go_wp2_with fail
      refine (HT.out _).mono ?_
      rintro e w9 ⟨rfl, B9⟩
      have BB9 := Lib.hid B9
      have HB9 : Hid (Below w.heap.size w w9) := HBW.out.trans (B9.mono HBW.out.size)
      have kc9 : (convert 24 9 (.slice rc zc.length kc)).run Try.prog w9 = .ok (.string XC) w9 := by rw [HXC.out]; exact run_conv_byt ((HYC.out.keep (B9.mono (by have := HSZ.out; omega))))
      have kd9 : (convert 24 9 (.slice rd zd.length kd)).run Try.prog w9 = .ok (.string XD) w9 := by rw [HXD.out]; exact run_conv_byt ((HYD.out.keep (B9.mono (by have := HSZ.out; omega))))
      have hzf : (XC.toList == XD.toList) = false := by rw [HZ2.out, HR3.out]
      clear B9
      go_wp2
      go_returns
      exact ⟨rfl, HB9.out⟩

set_option maxHeartbeats 2000000 in
set_option maxRecDepth 100000 in
theorem go_nxyn (a1 a2 a3 a4 a5 : Int) (a6 : ByteArray) (b1 b2 b3 b4 b5 : Int) (b6 : ByteArray) (p1 p2 : Int) (ao bo : Option Addr) (m n ca cb : Nat) (w : World) (hda : a6.size ≤ 9223372036854775807) (hdb : b6.size ≤ 9223372036854775807) (hfa : a6.size ≤ 300) (hfb : b6.size ≤ 300) (hm8 : m ≤ 8) (hn8 : n ≤ 8) (L1 L2 : List Int) (_ : L1.length = m) (_ : L2.length = n) (hI1 : Ints w w.heap.size (.slice ao m ca) L1) (hI2 : Ints w w.heap.size (.slice bo n cb) L2) (hma : ¬ ReqV.may ⟨a1, a2, a3, a4, a5, a6⟩) (hmc : ChainV.may ⟨p1, L1⟩) (hmd : ¬ ChainV.may ⟨p2, L2⟩) :
    Calls Try.prog 7 #[.agg #[.int .i64 a1, .int .i64 a2, .int .i64 a3, .int .i64 a4, .int .i64 a5, .string a6], .agg #[.int .i64 b1, .int .i64 b2, .int .i64 b3, .int .i64 b4, .int .i64 b5, .string b6], .agg #[.int .i64 p1, .slice ao m ca], .agg #[.int .i64 p2, .slice bo n cb]] w fun e w' => e = .returned (.bool true) ∧ Below w.heap.size w w' := by
  have HT := Lib.hid (fun u => told2_any u)
  have HFA := Lib.hid (fun u => few_any a1 a2 a3 a4 a5 a6 hda true (show _ = _ from (decide_eq_true hfa).symm) u)
  have HFB := Lib.hid (fun u => few_any b1 b2 b3 b4 b5 b6 hdb true (show _ = _ from (decide_eq_true hfb).symm) u)
  have HPA := Lib.hid (fun u => putreq_no a1 a2 a3 a4 a5 a6 hda hma u)
  obtain ⟨eb, heb⟩ : ∃ eb : Int, ∀ u, Calls Try.prog 12 #[.agg #[.int .i64 b1, .int .i64 b2, .int .i64 b3, .int .i64 b4, .int .i64 b5, .string b6]] u fun e w' => ∃ rb kb lb, e = .returned (.tuple #[.slice rb lb kb, .int .i64 eb]) ∧ Below u.heap.size u w' := by
    by_cases hmb : ReqV.may ⟨b1, b2, b3, b4, b5, b6⟩
    · refine ⟨0, fun u => (put_any b1 b2 b3 b4 b5 b6 hmb u).mono ?_⟩
      rintro e w' ⟨v, rfl, ho, hb⟩
      obtain ⟨r, k, rfl⟩ := own_shape ho
      exact ⟨r, k, _, rfl, hb⟩
    · refine ⟨1, fun u => (putreq_no b1 b2 b3 b4 b5 b6 hdb hmb u).mono ?_⟩
      rintro e w' ⟨rfl, hb⟩
      exact ⟨none, 0, 0, rfl, hb⟩
  have HPB := Lib.hid heb
  clear heb
  have HPC : Hid (∀ u, Below w.heap.size w u → Calls Try.prog 20 #[.agg #[.int .i64 p1, .slice ao m ca]] u fun e w' => ∃ v', e = .returned (.tuple #[v', .int .i64 0]) ∧
      w'.ownsRow u.heap.size 5 1 v' (ChainV.bytes ⟨p1, L1⟩).length (Lib.byteCells (ChainV.bytes ⟨p1, L1⟩)) ∧ Below u.heap.size u w') := fun u hu => putchain_yes p1 _ L1 w.heap.size u (hI1.keep hu) hu.size hmc
  have HPD : Hid (∀ u, Below w.heap.size w u → Calls Try.prog 20 #[.agg #[.int .i64 p2, .slice bo n cb]] u fun e w' => e = .returned (.tuple #[.slice none 0 0, .int .i64 1]) ∧ Below u.heap.size u w') := fun u hu => putchain_no p2 _ L2 w.heap.size u (hI2.keep hu) hu.size hmd
  have G0 := Lib.hid (Q4.start w a1 a2 a3 a4 a5 a6 b1 b2 b3 b4 b5 b6 p1 (.slice ao m ca) p2 (.slice bo n cb) 23 38)
  clear hfa hfb hma hmc hI1 hI2 hmd
  go_enter Try.func7, Try.ntmps7
  go_wp2_with fail
  refine (HFA.out _).mono ?_
  rintro e w1 ⟨rfl, B1⟩
  have G1 := Lib.hid (G0.out.step B1)
  clear B1
  obtain ⟨e0, e1, e2, e3, e4, e5⟩ := G1.out.qb.cells
  go_wp2_with fail
  refine (HFB.out _).mono ?_
  rintro e w2 ⟨rfl, B2⟩
  have G2 := Lib.hid (G1.out.step B2)
  clear B2 e0 e1 e2 e3 e4 e5
  obtain ⟨x0, x1⟩ := G2.out.qc.cells
  obtain ⟨y0, y1⟩ := G2.out.qd.cells
  obtain ⟨e0, e1, e2, e3, e4, e5⟩ := G2.out.qa.cells
  go_wp2_with fail
  refine (HPA.out _).mono ?_
  rintro e w3 ⟨rfl, B3⟩
  have G3 := Lib.hid (G2.out.step B3)
  clear B3 e0 e1 e2 e3 e4 e5 
  clear x0 x1 y0 y1
  obtain ⟨e0, e1, e2, e3, e4, e5⟩ := G3.out.qb.cells
  go_wp2_with fail
  refine (HPB.out _).mono ?_
  rintro e w4 ⟨rb, kb, lb, rfl, B4⟩
  have G4 := Lib.hid (G3.out.step B4)
  clear B4 e0 e1 e2 e3 e4 e5
  have P0 : Q4 w w4.drew a1 a2 a3 a4 a5 a6 b1 b2 b3 b4 b5 b6 p1 (.slice ao m ca) p2 (.slice bo n cb) := G4.out.step (Below.refl _ _).drew
  go_wp2_with fail
  refine region_quiet (fun v => Q4 w v a1 a2 a3 a4 a5 a6 b1 b2 b3 b4 b5 b6 p1 (.slice ao m ca) p2 (.slice bo n cb)) (by kernel_rfl) (by kernel_rfl) P0 ?_
  repeat (first
    | go_big_quiet_skip
    | (go_big_quiet_want
       (refine quiet_run (v := ?_) ?_ ?_; rotate_left; (intro u hu; go_simp <;> with_reducible rfl); simp only [Act.put, List.setIfInBounds_toArray, List.set_cons_zero, List.set_cons_succ]; go_big_quiet_on)))
  refine wpQuiet_nil ?_
  intro w5 h5
  have G5 := Lib.hid h5
  clear P0 h5
  obtain ⟨x0, x1⟩ := G5.out.qc.cells
  go_wp2_with fail
  refine (HPC.out _ G5.out.bel).mono ?_
  rintro e w6 ⟨vc, rfl, Oc, B6⟩
  have Yc := Lib.hid (byt_own Oc (Nat.le_refl _))
  obtain ⟨rc, kc, rfl⟩ := own_shape Oc
  have G6 := Lib.hid (G5.out.step B6)
  clear B6 Oc x0 x1
  obtain ⟨x0, x1⟩ := G6.out.qd.cells
  go_wp2_with fail
  refine (HPD.out _ G6.out.bel).mono ?_
  rintro e w7 ⟨rfl, B7⟩
  have G7 := Lib.hid (G6.out.step B7)
  clear B7 x0 x1
  go_wp2_with fail
  refine (HT.out _).mono ?_
  rintro e wt ⟨rfl, BT⟩
  have GT := Lib.hid (G7.out.step BT)
  clear BT
  go_wp2
  go_returns
  exact ⟨rfl, GT.out.bel⟩

set_option maxHeartbeats 2000000 in
set_option maxRecDepth 100000 in
theorem go_nxnx (a1 a2 a3 a4 a5 : Int) (a6 : ByteArray) (b1 b2 b3 b4 b5 : Int) (b6 : ByteArray) (p1 p2 : Int) (ao bo : Option Addr) (m n ca cb : Nat) (w : World) (hda : a6.size ≤ 9223372036854775807) (hdb : b6.size ≤ 9223372036854775807) (hfa : a6.size ≤ 300) (hfb : b6.size ≤ 300) (hm8 : m ≤ 8) (hn8 : n ≤ 8) (L1 L2 : List Int) (_ : L1.length = m) (_ : L2.length = n) (hI1 : Ints w w.heap.size (.slice ao m ca) L1) (hI2 : Ints w w.heap.size (.slice bo n cb) L2) (hma : ¬ ReqV.may ⟨a1, a2, a3, a4, a5, a6⟩) (hmc : ¬ ChainV.may ⟨p1, L1⟩) :
    Calls Try.prog 7 #[.agg #[.int .i64 a1, .int .i64 a2, .int .i64 a3, .int .i64 a4, .int .i64 a5, .string a6], .agg #[.int .i64 b1, .int .i64 b2, .int .i64 b3, .int .i64 b4, .int .i64 b5, .string b6], .agg #[.int .i64 p1, .slice ao m ca], .agg #[.int .i64 p2, .slice bo n cb]] w fun e w' => e = .returned (.bool true) ∧ Below w.heap.size w w' := by
  have HT := Lib.hid (fun u => told2_any u)
  have HFA := Lib.hid (fun u => few_any a1 a2 a3 a4 a5 a6 hda true (show _ = _ from (decide_eq_true hfa).symm) u)
  have HFB := Lib.hid (fun u => few_any b1 b2 b3 b4 b5 b6 hdb true (show _ = _ from (decide_eq_true hfb).symm) u)
  have HPA := Lib.hid (fun u => putreq_no a1 a2 a3 a4 a5 a6 hda hma u)
  obtain ⟨eb, heb⟩ : ∃ eb : Int, ∀ u, Calls Try.prog 12 #[.agg #[.int .i64 b1, .int .i64 b2, .int .i64 b3, .int .i64 b4, .int .i64 b5, .string b6]] u fun e w' => ∃ rb kb lb, e = .returned (.tuple #[.slice rb lb kb, .int .i64 eb]) ∧ Below u.heap.size u w' := by
    by_cases hmb : ReqV.may ⟨b1, b2, b3, b4, b5, b6⟩
    · refine ⟨0, fun u => (put_any b1 b2 b3 b4 b5 b6 hmb u).mono ?_⟩
      rintro e w' ⟨v, rfl, ho, hb⟩
      obtain ⟨r, k, rfl⟩ := own_shape ho
      exact ⟨r, k, _, rfl, hb⟩
    · refine ⟨1, fun u => (putreq_no b1 b2 b3 b4 b5 b6 hdb hmb u).mono ?_⟩
      rintro e w' ⟨rfl, hb⟩
      exact ⟨none, 0, 0, rfl, hb⟩
  have HPB := Lib.hid heb
  clear heb
  have HPC : Hid (∀ u, Below w.heap.size w u → Calls Try.prog 20 #[.agg #[.int .i64 p1, .slice ao m ca]] u fun e w' => e = .returned (.tuple #[.slice none 0 0, .int .i64 1]) ∧ Below u.heap.size u w') := fun u hu => putchain_no p1 _ L1 w.heap.size u (hI1.keep hu) hu.size hmc
  obtain ⟨ed, hed⟩ : ∃ ed : Int, ∀ u, Below w.heap.size w u → Calls Try.prog 20 #[.agg #[.int .i64 p2, .slice bo n cb]] u fun e w' => ∃ rd kd ld, e = .returned (.tuple #[.slice rd ld kd, .int .i64 ed]) ∧ Below u.heap.size u w' := by
    by_cases hmd : ChainV.may ⟨p2, L2⟩
    · refine ⟨0, fun u hu => (putchain_yes p2 _ L2 w.heap.size u (hI2.keep hu) hu.size hmd).mono ?_⟩
      rintro e w' ⟨v, rfl, ho, hb⟩
      obtain ⟨r, k, rfl⟩ := own_shape ho
      exact ⟨r, k, _, rfl, hb⟩
    · refine ⟨1, fun u hu => (putchain_no p2 _ L2 w.heap.size u (hI2.keep hu) hu.size hmd).mono ?_⟩
      rintro e w' ⟨rfl, hb⟩
      exact ⟨none, 0, 0, rfl, hb⟩
  have HPD := Lib.hid hed
  clear hed
  have G0 := Lib.hid (Q4.start w a1 a2 a3 a4 a5 a6 b1 b2 b3 b4 b5 b6 p1 (.slice ao m ca) p2 (.slice bo n cb) 23 38)
  clear hfa hfb hma hmc hI1 hI2
  go_enter Try.func7, Try.ntmps7
  go_wp2_with fail
  refine (HFA.out _).mono ?_
  rintro e w1 ⟨rfl, B1⟩
  have G1 := Lib.hid (G0.out.step B1)
  clear B1
  obtain ⟨e0, e1, e2, e3, e4, e5⟩ := G1.out.qb.cells
  go_wp2_with fail
  refine (HFB.out _).mono ?_
  rintro e w2 ⟨rfl, B2⟩
  have G2 := Lib.hid (G1.out.step B2)
  clear B2 e0 e1 e2 e3 e4 e5
  obtain ⟨x0, x1⟩ := G2.out.qc.cells
  obtain ⟨y0, y1⟩ := G2.out.qd.cells
  obtain ⟨e0, e1, e2, e3, e4, e5⟩ := G2.out.qa.cells
  go_wp2_with fail
  refine (HPA.out _).mono ?_
  rintro e w3 ⟨rfl, B3⟩
  have G3 := Lib.hid (G2.out.step B3)
  clear B3 e0 e1 e2 e3 e4 e5 
  clear x0 x1 y0 y1
  obtain ⟨e0, e1, e2, e3, e4, e5⟩ := G3.out.qb.cells
  go_wp2_with fail
  refine (HPB.out _).mono ?_
  rintro e w4 ⟨rb, kb, lb, rfl, B4⟩
  have G4 := Lib.hid (G3.out.step B4)
  clear B4 e0 e1 e2 e3 e4 e5
  have P0 : Q4 w w4.drew a1 a2 a3 a4 a5 a6 b1 b2 b3 b4 b5 b6 p1 (.slice ao m ca) p2 (.slice bo n cb) := G4.out.step (Below.refl _ _).drew
  go_wp2_with fail
  refine region_quiet (fun v => Q4 w v a1 a2 a3 a4 a5 a6 b1 b2 b3 b4 b5 b6 p1 (.slice ao m ca) p2 (.slice bo n cb)) (by kernel_rfl) (by kernel_rfl) P0 ?_
  repeat (first
    | go_big_quiet_skip
    | (go_big_quiet_want
       (refine quiet_run (v := ?_) ?_ ?_; rotate_left; (intro u hu; go_simp <;> with_reducible rfl); simp only [Act.put, List.setIfInBounds_toArray, List.set_cons_zero, List.set_cons_succ]; go_big_quiet_on)))
  refine wpQuiet_nil ?_
  intro w5 h5
  have G5 := Lib.hid h5
  clear P0 h5
  obtain ⟨x0, x1⟩ := G5.out.qc.cells
  go_wp2_with fail
  refine (HPC.out _ G5.out.bel).mono ?_
  rintro e w6 ⟨rfl, B6⟩
  have G6 := Lib.hid (G5.out.step B6)
  clear B6 x0 x1
  obtain ⟨x0, x1⟩ := G6.out.qd.cells
  go_wp2_with fail
  refine (HPD.out _ G6.out.bel).mono ?_
  rintro e w7 ⟨rd, kd, ld, rfl, B7⟩
  have G7 := Lib.hid (G6.out.step B7)
  clear B7 x0 x1
  go_wp2_with fail
  refine (HT.out _).mono ?_
  rintro e wt ⟨rfl, BT⟩
  have GT := Lib.hid (G7.out.step BT)
  clear BT
  go_wp2
  go_returns
  exact ⟨rfl, GT.out.bel⟩

theorem walk (a1 a2 a3 a4 a5 : Int) (a6 : ByteArray) (b1 b2 b3 b4 b5 : Int) (b6 : ByteArray) (p1 : Int) (v1 : Value) (L1 : List Int) (p2 : Int) (v2 : Value) (L2 : List Int) (w : World)
    (hda : a6.size ≤ maxLen) (hdb : b6.size ≤ maxLen) (hI1 : Ints w w.heap.size v1 L1) (hI2 : Ints w w.heap.size v2 L2) :
    Calls Try.prog 7 #[.agg #[.int .i64 a1, .int .i64 a2, .int .i64 a3, .int .i64 a4, .int .i64 a5, .string a6], .agg #[.int .i64 b1, .int .i64 b2, .int .i64 b3, .int .i64 b4, .int .i64 b5, .string b6], .agg #[.int .i64 p1, v1], .agg #[.int .i64 p2, v2]] w fun e w' => e = .returned (.bool true) ∧ Below w.heap.size w w' := by
  unfold maxLen at hda hdb
  have hI1' := hI1
  have hI2' := hI2
  obtain ⟨ao, ca, rfl, _⟩ := hI1'
  obtain ⟨bo, cb, rfl, _⟩ := hI2'
  by_cases hfa : a6.size ≤ 300
  case neg => exact many1 a1 a2 a3 a4 a5 a6 b1 b2 b3 b4 b5 b6 p1 p2 ao bo _ _ ca cb w hda hdb hfa
  by_cases hfb : b6.size ≤ 300
  case neg => exact many2 a1 a2 a3 a4 a5 a6 b1 b2 b3 b4 b5 b6 p1 p2 ao bo _ _ ca cb w hda hdb hfa hfb
  by_cases h8 : L1.length ≤ 8
  case neg => exact many3 a1 a2 a3 a4 a5 a6 b1 b2 b3 b4 b5 b6 p1 p2 ao bo _ _ ca cb w hda hdb hfa hfb (by omega)
  by_cases h9 : L2.length ≤ 8
  case neg => exact many4 a1 a2 a3 a4 a5 a6 b1 b2 b3 b4 b5 b6 p1 p2 ao bo _ _ ca cb w hda hdb hfa hfb h8 (by omega)
  by_cases hma : ReqV.may ⟨a1, a2, a3, a4, a5, a6⟩
  · by_cases hmb : ReqV.may ⟨b1, b2, b3, b4, b5, b6⟩
    · by_cases hmc : ChainV.may ⟨p1, L1⟩
      · by_cases hmd : ChainV.may ⟨p2, L2⟩
        · exact go_yyyy a1 a2 a3 a4 a5 a6 b1 b2 b3 b4 b5 b6 p1 p2 ao bo _ _ ca cb w hda hdb hfa hfb h8 h9 L1 L2 rfl rfl hI1 hI2 hma hmb hmc hmd
        · exact go_yyyn a1 a2 a3 a4 a5 a6 b1 b2 b3 b4 b5 b6 p1 p2 ao bo _ _ ca cb w hda hdb hfa hfb h8 h9 L1 L2 rfl rfl hI1 hI2 hma hmb hmc hmd
      · exact go_yynx a1 a2 a3 a4 a5 a6 b1 b2 b3 b4 b5 b6 p1 p2 ao bo _ _ ca cb w hda hdb hfa hfb h8 h9 L1 L2 rfl rfl hI1 hI2 hma hmb hmc
    · by_cases hmc : ChainV.may ⟨p1, L1⟩
      · by_cases hmd : ChainV.may ⟨p2, L2⟩
        · exact go_ynyy a1 a2 a3 a4 a5 a6 b1 b2 b3 b4 b5 b6 p1 p2 ao bo _ _ ca cb w hda hdb hfa hfb h8 h9 L1 L2 rfl rfl hI1 hI2 hma hmb hmc hmd
        · exact go_ynyn a1 a2 a3 a4 a5 a6 b1 b2 b3 b4 b5 b6 p1 p2 ao bo _ _ ca cb w hda hdb hfa hfb h8 h9 L1 L2 rfl rfl hI1 hI2 hma hmb hmc hmd
      · exact go_ynnx a1 a2 a3 a4 a5 a6 b1 b2 b3 b4 b5 b6 p1 p2 ao bo _ _ ca cb w hda hdb hfa hfb h8 h9 L1 L2 rfl rfl hI1 hI2 hma hmb hmc
  · by_cases hmc : ChainV.may ⟨p1, L1⟩
    · by_cases hmd : ChainV.may ⟨p2, L2⟩
      · exact go_nxyy a1 a2 a3 a4 a5 a6 b1 b2 b3 b4 b5 b6 p1 p2 ao bo _ _ ca cb w hda hdb hfa hfb h8 h9 L1 L2 rfl rfl hI1 hI2 hma hmc hmd
      · exact go_nxyn a1 a2 a3 a4 a5 a6 b1 b2 b3 b4 b5 b6 p1 p2 ao bo _ _ ca cb w hda hdb hfa hfb h8 h9 L1 L2 rfl rfl hI1 hI2 hma hmc hmd
    · exact go_nxnx a1 a2 a3 a4 a5 a6 b1 b2 b3 b4 b5 b6 p1 p2 ao bo _ _ ca cb w hda hdb hfa hfb h8 h9 L1 L2 rfl rfl hI1 hI2 hma hmc

set_option maxRecDepth 100000 in
theorem lifted (os : Os) (started : os.Started) (H : Type) (enc : TypeId × Value → H) :
    ReturnsInHanded {} Try.checked os 7 .any (Rows.itemApartSpec.pre6 enc Try.prog Try.f7 Rows.itemApartRow.domain false) (Rows.itemApartSpec.post enc Try.prog Try.f7 false true false false) := by
  refine returnsInHanded_of_change (C := Try.checked) own started (by kernel_rfl) Try.func7
    (ChangeSpec.witness6 (enc := enc) (C := Try.checked) false ⟨#[], #[.agg #[.int .i64 0, .int .i64 0, .int .i64 0, .int .i64 0, .int .i64 0, .string ByteArray.empty], .agg #[.int .i64 0, .int .i64 0, .int .i64 0, .int .i64 0, .int .i64 0, .string ByteArray.empty], .agg #[.int .i64 0, .slice none 0 0], .agg #[.int .i64 0, .slice none 0 0]], []⟩ 8 (by kernel_rfl) (by kernel_rfl) (by kernel_rfl) (by kernel_rfl)) ?_
  intro W base args ds gs before hval0 hW hcnd _
  have hval : ∀ (j : Nat) t v, Try.f7.params[j]? = some t → args[j]? = some v → Value.okWide Try.prog W .any base t v := hval0
  have hW' := hW
  obtain ⟨p, q, hA0, hV, rfl, hfz, hnd⟩ := hW
  have hA : DataW.TrodAll enc Try.prog W 0 (fun _ => true) true Try.f7.params.toList args.toList ds p := hA0
  rw [Try.params7] at hA hval
  obtain ⟨v0, vs0, d0, ds0, p0, q0, hargs, rfl, rfl, h0, r0⟩ := trodAll_cons hA
  obtain ⟨v1, vs1, d1, ds1, p1, q1, rfl, rfl, rfl, h1, r1⟩ := trodAll_cons r0
  obtain ⟨v2, vs2, d2, ds2, p2, q2, rfl, rfl, rfl, h2, r2⟩ := trodAll_cons r1
  obtain ⟨v3, vs3, d3, ds3, p3, q3, rfl, rfl, rfl, h3, r3⟩ := trodAll_cons r2
  obtain ⟨rfl, rfl, rfl⟩ := trodAll_nil r3
  obtain rfl : args = #[v0, v1, v2, v3] := by cases args; simp_all
  obtain ⟨rfl, rfl⟩ := trodVars_none hV
  have k0 := h0
  have lt0 : ∀ x ∈ p0, x.block < W.heap.size := by obtain ⟨m, hm⟩ := k0; exact DataW.trod_lt m _ _ _ hm
  obtain ⟨⟨xa0, xb0, xc0, xd0, xe0, xf0⟩, w0, rfl⟩ := req_open (hval 0 23 v0 rfl rfl) h0
  have k1 := h1
  have lt1 : ∀ x ∈ p1, x.block < W.heap.size := by obtain ⟨m, hm⟩ := k1; exact DataW.trod_lt m _ _ _ hm
  obtain ⟨⟨xa1, xb1, xc1, xd1, xe1, xf1⟩, w1, rfl⟩ := req_open (hval 1 23 v1 rfl rfl) h1
  have k2 := h2
  have lt2 : ∀ x ∈ p2, x.block < W.heap.size := by obtain ⟨m, hm⟩ := k2; exact DataW.trod_lt m _ _ _ hm
  obtain ⟨xa2, xb2, xc2, xd2, l2, rfl, w2⟩ := chain_open (hval 2 38 v2 rfl rfl) h2
  have k3 := h3
  have lt3 : ∀ x ∈ p3, x.block < W.heap.size := by obtain ⟨m, hm⟩ := k3; exact DataW.trod_lt m _ _ _ hm
  obtain ⟨xa3, xb3, xc3, xd3, l3, rfl, w3⟩ := chain_open (hval 3 38 v3 rfl rfl) h3
  clear hA0 hval0
  refine (walk xa0 xb0 xc0 xd0 xe0 xf0 xa1 xb1 xc1 xd1 xe1 xf1 xa2 (.slice xb2 xc2 xd2) l2 xa3 (.slice xb3 xc3 xd3) l3 W w0 w1 w2 w3).mono fun e W' ⟨he, bel⟩ => ?_
  subst he
  exact ⟨_, rfl, _, _, _, [], _, [], hW', trodAll_mk1 (shut_bool Try.underlying4 _), (trodAll_cons_mk (Below.trod laidOut (by kernel_rfl) (of_decide_eq_true (by kernel_rfl)) k0 bel lt0) (trodAll_cons_mk (Below.trod laidOut (by kernel_rfl) (of_decide_eq_true (by kernel_rfl)) k1 bel lt1) (trodAll_cons_mk (Below.trod laidOut (by kernel_rfl) (of_decide_eq_true (by kernel_rfl)) k2 bel lt2) (trodAll_cons_mk (Below.trod laidOut (by kernel_rfl) (of_decide_eq_true (by kernel_rfl)) k3 bel lt3) trodAll_mk0)))), rfl, bel.frame _, fun h => by cases h⟩

theorem over : Rows.itemApartRow.holds Try.pinned (OpenSpec.ofChange Rows.itemApartSpec) :=
  OpenClaim.holds_of_wide 7 Try.f7 rfl rfl rfl rfl rfl rfl rfl ⟨rfl, rfl, rfl, rfl, rfl⟩ rfl rfl rfl rfl rfl (by kernel_rfl) Try.func7 (by kernel_rfl)
    (of_decide_eq_true (by kernel_rfl)) (by unfold Func.isWrapper; first | (rw [if_pos (by decide +kernel)]; kernel_rfl) | (rw [if_neg (by decide +kernel)]; exact ⟨rfl, rfl⟩))
    (fun os started H enc _ => lifted os started H enc)
end Go.Proofs.Ytocedkdgmhegeaa.ItemApart

namespace Go.Proofs.Ytocedkdgmhegeaa
theorem itemApart_holds : Rows.ItemApartSaid := ItemApart.over
#print axioms itemApart_holds
end Go.Proofs.Ytocedkdgmhegeaa
