/-
  With one part turned it is not the same (3.1), as ReqParts says: for any request, any reply, any part. No condition.
-/
import Derived.Test.YtjgeopdcniameaaReqT
import Derived.Test.YtjgeopdcniameaaRegion
import Derived.Laws.BitsAllLaws
import Derived.BigRegion
import Derived.Deep.DeepCutAuto
import Derived.Deep.RegionWith
import Derived.Deep.RegionHeld3
namespace Go.Proofs.Ytjgeopdcniameaa.ReqParts
open Go.ChangeShapes Go.WideShapes Go.ChangeAt Go.RowKit

theorem of_wrap (x : BitVec 64) : BitVec.ofInt 64 (IntKind.i64.wrap (x.toNat : Int)) = x := by
  apply BitVec.eq_of_toNat_eq
  rw [BitVec.toNat_ofInt]
  have := x.isLt
  simp [IntKind.wrap, IntKind.bits, IntKind.signed]
  omega
theorem xor_ne (a c : Int) (hc : BitVec.ofInt 64 c ≠ 0#64) : bits .xor .i64 a c ≠ a := by
  intro h
  have h1 : IntKind.i64.wrap ((BitVec.ofInt 64 a ^^^ BitVec.ofInt 64 c).toNat : Int) = a := h
  have h2 := congrArg (BitVec.ofInt 64) h1
  rw [of_wrap] at h2
  apply hc
  have h3 := congrArg (BitVec.ofInt 64 a ^^^ ·) h2
  simpa [← BitVec.xor_assoc] using h3
theorem x1 (a : Int) : (a == bits .xor .i64 a 1) = false := beq_eq_false_iff_ne.2 fun h => xor_ne a 1 (by decide) h.symm
theorem x2 (a : Int) : (a == bits .xor .i64 a 2) = false := beq_eq_false_iff_ne.2 fun h => xor_ne a 2 (by decide) h.symm

/-- The blocks of the request and the reply that came in stand, and those of the two that the law made; nothing below has turned. -/
structure PT (w v : World) (a1 a2 a3 a4 a5 : Int) (a6 : ByteArray) (r1 r2 : Int) (r3 : ByteArray) (rv : Value) (B S : Nat) (b1 b2 b3 b4 b5 : Int) (b6 : ByteArray) (s1 s2 : Int) (s3 : ByteArray) (sv : Value) : Prop where
  a : ReqB v w.heap.size a1 a2 a3 a4 a5 a6
  r : RepB v (w.heap.size + 1) r1 r2 r3 rv
  b : ReqB v B b1 b2 b3 b4 b5 b6
  s : RepB v S s1 s2 s3 sv
  hB : w.heap.size + 2 ≤ B
  hS : w.heap.size + 2 ≤ S
  ne : B ≠ S
  bel : Below w.heap.size w v

theorem ReqB.at {w w' : World} {b : Nat} {cl sq kd id mt : Int} {dt : ByteArray} (h : ReqB w b cl sq kd id mt dt) (e : w'.heap[b]? = w.heap[b]?) : ReqB w' b cl sq kd id mt dt := by
  obtain ⟨t, h⟩ := h
  exact ⟨t, e.trans h⟩
theorem RepB.at {w w' : World} {b : Nat} {c n : Int} {d : ByteArray} {v : Value} (h : RepB w b c n d v) (e : w'.heap[b]? = w.heap[b]?) : RepB w' b c n d v := by
  obtain ⟨t, h⟩ := h
  exact ⟨t, e.trans h⟩
theorem rep_free {w : World} {b : Nat} {c n : Int} {d : ByteArray} {v : Value} (h : RepB w b c n d v) (o : Nat) : w.frozen? ⟨b, o, none⟩ = false := by
  obtain ⟨e, h⟩ := h
  simp [World.frozen?, h]
theorem alloc_at (w : World) (o : Obj) (k : Nat) : (w.alloc o).heap[k]? = if k = w.heap.size then some o else w.heap[k]? := by
  show (w.heap.push o)[k]? = _
  rw [Array.getElem?_push]
theorem alloc_size (w : World) (o : Obj) : (w.alloc o).heap.size = w.heap.size + 1 := by simp
theorem PT.drew {w u : World} {a1 a2 a3 a4 a5 : Int} {a6 : ByteArray} {r1 r2 : Int} {r3 : ByteArray} {rv : Value} {B S : Nat} {b1 b2 b3 b4 b5 : Int} {b6 : ByteArray} {s1 s2 : Int} {s3 : ByteArray} {sv : Value}
    (h : PT w u a1 a2 a3 a4 a5 a6 r1 r2 r3 rv B S b1 b2 b3 b4 b5 b6 s1 s2 s3 sv) : PT w u.drew a1 a2 a3 a4 a5 a6 r1 r2 r3 rv B S b1 b2 b3 b4 b5 b6 s1 s2 s3 sv :=
  ⟨h.a, h.r, h.b, h.s, h.hB, h.hS, h.ne, h.bel.drew⟩

/-- Behind 'b, s := a, r'. -/
def Cut1 (w wr : World) (s7 s8 : Value) (a1 a2 a3 a4 a5 : Int) (a6 : ByteArray) (r1 r2 : Int) (r3 : ByteArray) (ra : Option Addr) (rn rc : Nat) : Prop :=
  ∃ B S : Nat, s7 = .pointer (some ⟨B, 0, none⟩) ∧ s8 = .pointer (some ⟨S, 0, none⟩) ∧ PT w wr a1 a2 a3 a4 a5 a6 r1 r2 r3 (.slice ra rn rc) B S a1 a2 a3 a4 a5 a6 r1 r2 r3 (.slice ra rn rc)

theorem cut1_a (w : World) (a1 a2 a3 a4 a5 : Int) (a6 : ByteArray) (r1 r2 : Int) (r3 : ByteArray) (ra : Option Addr) (rn rc : Nat) :
    Cut1 w ((((w.alloc (.cells #[.int .i64 a1, .int .i64 a2, .int .i64 a3, .int .i64 a4, .int .i64 a5, .string a6] 23)).alloc (.cells #[.int .i64 r1, .int .i64 r2, .string r3, .slice ra rn rc] 26)).alloc (.cells #[.int .i64 a1, .int .i64 a2, .int .i64 a3, .int .i64 a4, .int .i64 a5, .string a6] 23)).alloc (.cells #[.int .i64 r1, .int .i64 r2, .string r3, .slice ra rn rc] 26)).drew (.pointer (some ⟨w.heap.size + 1 + 1, 0, none⟩)) (.pointer (some ⟨w.heap.size + 1 + 1 + 1, 0, none⟩)) a1 a2 a3 a4 a5 a6 r1 r2 r3 ra rn rc := by
  refine ⟨_, _, rfl, rfl, ⟨23, ?_⟩, ⟨26, ?_⟩, ⟨23, ?_⟩, ⟨26, ?_⟩, by omega, by omega, by omega, ((((Below.refl _ w).alloc (Nat.le_refl _) _).alloc (by simp) _).alloc (by simp; omega) _).alloc (by simp; omega) _ |>.drew⟩
  all_goals
    rw [show ∀ u : World, u.drew.heap = u.heap from fun _ => rfl]
    simp only [alloc_at, alloc_size]
    repeat' (first | rfl | rw [if_neg (by omega)] | rw [if_pos (by omega)])

theorem cut1_b (w : World) (a1 a2 a3 a4 a5 : Int) (a6 : ByteArray) (r1 r2 : Int) (r3 : ByteArray) (ra : Option Addr) (rn rc : Nat) :
    Cut1 w ((((w.alloc (.cells #[.int .i64 a1, .int .i64 a2, .int .i64 a3, .int .i64 a4, .int .i64 a5, .string a6] 23)).alloc (.cells #[.int .i64 r1, .int .i64 r2, .string r3, .slice ra rn rc] 26)).alloc (.cells #[.int .i64 r1, .int .i64 r2, .string r3, .slice ra rn rc] 26)).alloc (.cells #[.int .i64 a1, .int .i64 a2, .int .i64 a3, .int .i64 a4, .int .i64 a5, .string a6] 23)).drew (.pointer (some ⟨w.heap.size + 1 + 1 + 1, 0, none⟩)) (.pointer (some ⟨w.heap.size + 1 + 1, 0, none⟩)) a1 a2 a3 a4 a5 a6 r1 r2 r3 ra rn rc := by
  refine ⟨_, _, rfl, rfl, ⟨23, ?_⟩, ⟨26, ?_⟩, ⟨23, ?_⟩, ⟨26, ?_⟩, by omega, by omega, by omega, ((((Below.refl _ w).alloc (Nat.le_refl _) _).alloc (by simp) _).alloc (by simp; omega) _).alloc (by simp; omega) _ |>.drew⟩
  all_goals
    rw [show ∀ u : World, u.drew.heap = u.heap from fun _ => rfl]
    simp only [alloc_at, alloc_size]
    repeat' (first | rfl | rw [if_neg (by omega)] | rw [if_pos (by omega)])

theorem req_set0 {w : World} {b : Nat} {a1 a2 a3 a4 a5 : Int} {a6 : ByteArray} (h : ReqB w b a1 a2 a3 a4 a5 a6) (x : Int) : ReqB (w.setCell ⟨b, 0, none⟩ (.int .i64 x)) b x a2 a3 a4 a5 a6 := by
  obtain ⟨e, h⟩ := h
  exact ⟨e, by rw [heap_setCell_same _ _ _ _ _ _ h]; rfl⟩
theorem req_set1 {w : World} {b : Nat} {a1 a2 a3 a4 a5 : Int} {a6 : ByteArray} (h : ReqB w b a1 a2 a3 a4 a5 a6) (x : Int) : ReqB (w.setCell ⟨b, 1, none⟩ (.int .i64 x)) b a1 x a3 a4 a5 a6 := by
  obtain ⟨e, h⟩ := h
  exact ⟨e, by rw [heap_setCell_same _ _ _ _ _ _ h]; rfl⟩
theorem req_set2 {w : World} {b : Nat} {a1 a2 a3 a4 a5 : Int} {a6 : ByteArray} (h : ReqB w b a1 a2 a3 a4 a5 a6) (x : Int) : ReqB (w.setCell ⟨b, 2, none⟩ (.int .i64 x)) b a1 a2 x a4 a5 a6 := by
  obtain ⟨e, h⟩ := h
  exact ⟨e, by rw [heap_setCell_same _ _ _ _ _ _ h]; rfl⟩
theorem req_set3 {w : World} {b : Nat} {a1 a2 a3 a4 a5 : Int} {a6 : ByteArray} (h : ReqB w b a1 a2 a3 a4 a5 a6) (x : Int) : ReqB (w.setCell ⟨b, 3, none⟩ (.int .i64 x)) b a1 a2 a3 x a5 a6 := by
  obtain ⟨e, h⟩ := h
  exact ⟨e, by rw [heap_setCell_same _ _ _ _ _ _ h]; rfl⟩
theorem req_set4 {w : World} {b : Nat} {a1 a2 a3 a4 a5 : Int} {a6 : ByteArray} (h : ReqB w b a1 a2 a3 a4 a5 a6) (x : Int) : ReqB (w.setCell ⟨b, 4, none⟩ (.int .i64 x)) b a1 a2 a3 a4 x a6 := by
  obtain ⟨e, h⟩ := h
  exact ⟨e, by rw [heap_setCell_same _ _ _ _ _ _ h]; rfl⟩
theorem req_set5 {w : World} {b : Nat} {a1 a2 a3 a4 a5 : Int} {a6 : ByteArray} (h : ReqB w b a1 a2 a3 a4 a5 a6) (x : ByteArray) : ReqB (w.setCell ⟨b, 5, none⟩ (.string x)) b a1 a2 a3 a4 a5 x := by
  obtain ⟨e, h⟩ := h
  exact ⟨e, by rw [heap_setCell_same _ _ _ _ _ _ h]; rfl⟩
theorem rep_set0 {w : World} {b : Nat} {r1 r2 : Int} {r3 : ByteArray} {rv : Value} (h : RepB w b r1 r2 r3 rv) (x : Int) : RepB (w.setCell ⟨b, 0, none⟩ (.int .i64 x)) b x r2 r3 rv := by
  obtain ⟨e, h⟩ := h
  exact ⟨e, by rw [heap_setCell_same _ _ _ _ _ _ h]; rfl⟩
theorem rep_set1 {w : World} {b : Nat} {r1 r2 : Int} {r3 : ByteArray} {rv : Value} (h : RepB w b r1 r2 r3 rv) (x : Int) : RepB (w.setCell ⟨b, 1, none⟩ (.int .i64 x)) b r1 x r3 rv := by
  obtain ⟨e, h⟩ := h
  exact ⟨e, by rw [heap_setCell_same _ _ _ _ _ _ h]; rfl⟩
theorem rep_set2 {w : World} {b : Nat} {r1 r2 : Int} {r3 : ByteArray} {rv : Value} (h : RepB w b r1 r2 r3 rv) (x : ByteArray) : RepB (w.setCell ⟨b, 2, none⟩ (.string x)) b r1 r2 x rv := by
  obtain ⟨e, h⟩ := h
  exact ⟨e, by rw [heap_setCell_same _ _ _ _ _ _ h]; rfl⟩
theorem rep_set3 {w : World} {b : Nat} {r1 r2 : Int} {r3 : ByteArray} {rv : Value} (h : RepB w b r1 r2 r3 rv) (x : Value) : RepB (w.setCell ⟨b, 3, none⟩ (x)) b r1 r2 r3 x := by
  obtain ⟨e, h⟩ := h
  exact ⟨e, by rw [heap_setCell_same _ _ _ _ _ _ h]; rfl⟩
theorem req_apart {w : World} {b : Nat} {a1 a2 a3 a4 a5 : Int} {a6 : ByteArray} (h : ReqB w b a1 a2 a3 a4 a5 a6) {p : Addr} (hp : b ≠ p.block) (u : Value) : ReqB (w.setCell p u) b a1 a2 a3 a4 a5 a6 := ReqB.at h (Below.heap_setCell _ _ _ _ hp)
theorem rep_apart {w : World} {b : Nat} {r1 r2 : Int} {r3 : ByteArray} {rv : Value} (h : RepB w b r1 r2 r3 rv) {p : Addr} (hp : b ≠ p.block) (u : Value) : RepB (w.setCell p u) b r1 r2 r3 rv := RepB.at h (Below.heap_setCell _ _ _ _ hp)

/-- Behind the step of a world by a call. -/
theorem PT.step {w u v : World} {a1 a2 a3 a4 a5 : Int} {a6 : ByteArray} {r1 r2 : Int} {r3 : ByteArray} {rv : Value} {B S : Nat} {b1 b2 b3 b4 b5 : Int} {b6 : ByteArray} {s1 s2 : Int} {s3 : ByteArray} {sv : Value}
    (h : PT w u a1 a2 a3 a4 a5 a6 r1 r2 r3 rv B S b1 b2 b3 b4 b5 b6 s1 s2 s3 sv) (hb : Below u.heap.size u v) : PT w v a1 a2 a3 a4 a5 a6 r1 r2 r3 rv B S b1 b2 b3 b4 b5 b6 s1 s2 s3 sv :=
  ⟨h.a.keep hb h.a.lt, h.r.keep hb h.r.lt, h.b.keep hb h.b.lt, h.s.keep hb h.s.lt, h.hB, h.hS, h.ne, h.bel.trans (hb.mono h.bel.size)⟩

theorem longer (d : ByteArray) : (d.toList == (d ++ ⟨#[120]⟩).toList) = false := by
  rw [beq_eq_false_iff_ne]
  intro h
  have := congrArg List.length h
  rw [ByteArray.toList_eq, ByteArray.toList_eq, ByteArray.data_append] at this
  simp at this

theorem same_self (a1 a2 a3 a4 a5 : Int) (a6 : ByteArray) (u : World) : Calls Try.prog 8 #[.agg #[.int .i64 a1, .int .i64 a2, .int .i64 a3, .int .i64 a4, .int .i64 a5, .string a6], .agg #[.int .i64 a1, .int .i64 a2, .int .i64 a3, .int .i64 a4, .int .i64 a5, .string a6]] u fun e w' => e = .returned (.bool true) ∧ Below u.heap.size u w' :=
  same_r a1 a2 a3 a4 a5 a1 a2 a3 a4 a5 a6 a6 true (by simp) u
theorem rep_other (r1 r2 s1 s2 : Int) (r3 s3 : ByteArray) (ra : Option Addr) (rn rc : Nat) (rl : List Int) (w u : World) (hr : Ints w w.heap.size (.slice ra rn rc) rl) (hl : rl.length ≤ 50) (hb : Below w.heap.size w u)
    (h : (r1 == s1 && r2 == s2 && r3.toList == s3.toList) = false) :
    Calls Try.prog 9 #[.agg #[.int .i64 r1, .int .i64 r2, .string r3, .slice ra rn rc], .agg #[.int .i64 s1, .int .i64 s2, .string s3, .slice ra rn rc]] u fun e w' => e = .returned (.bool false) ∧ Below u.heap.size u w' :=
  samereply_any r1 r2 s1 s2 r3 s3 _ _ rl rl _ u (hr.keep hb) (hr.keep hb) hb.size (by omega) false (show _ = _ by rw [h]; simp)


/-- append from any source onto a row that the call itself made, as one step of a region that draws. -/
theorem step_append_src {P : Program} {ops : Array Oper} {o : Oper} {a : Act} {w : World} {K : Act → World → Prop} {Q : Exit → Act → World → Prop} {E : Prop} (hgd : o.guard = none) (s x : Operand) (t tx : TypeId)
    (ho : o.op = .call { callee := .builtin .append, args := #[s, x], argTypes := #[t, tx] })
    (base : Nat) (e : TypeId) (i : TypeInfo) (z : Value) (size bytes : Nat) (ht : P.underlying t = some (.slice e)) (hi : P.info? e = some i) (hz : i.zero = some z)
    (hsize : i.size = size) (hby : i.bytes = bytes) (hzs : z.cells.size = size)
    (v : Value) (n : Nat) (xs : List Value) (hs : a.eval s = v) (hown : w.ownsRow base e size v n xs)
    (xv : Value) (m : Nat) (news : List Value) (hx : a.eval x = xv) (hsrc : Src P size tx xv m news w)
    (h63 : n + m ≤ maxLen) (hbytes : (n + m) * bytes ≤ 140737488355328) (hbase : base ≤ w.heap.size)
    (hK : ∀ v' w', w'.ownsRow base e size v' (n + m) (xs ++ news) → w.grownBy w' v.ownBlock → K (a.put o.dst v') w') :
    if Region.wanted o (yielded ops a.tmps) = true then Oper.wp P o a w K Q else E := by
  have hw : Region.wanted o (yielded ops a.tmps) = true := by simp [Region.wanted, hgd]
  rw [if_pos hw]
  obtain ⟨v', w', hrun, h1, h2⟩ := run_append_own_src (P := P) base t tx o.type e i z size bytes ht hi hz hsize hby hzs v n xs hown xv m news hsrc h63 hbytes hbase
  unfold Oper.wp
  simp [execOp, ho, resolve, invoke, builtin, hs, hx, hrun, Result.andThen]
  exact hK _ _ h1 h2

theorem info_int : (Try.prog.info? 3).map (fun i => (i.zero, i.size, i.bytes)) = some (some (.int .i64 0), 1, 8) := by kernel_rfl

theorem src_cells {w : World} {b off cap : Nat} {L : List Int} (hc : ∀ j, j < L.length → w.cell? ⟨b, off + j, none⟩ = some (.int .i64 (L.getD j 0))) :
    Src Try.prog 1 24 (.slice (some ⟨b, off, none⟩) L.length cap) L.length (intCells L) w :=
  Src.ofSlice _ Try.underlying24 ⟨b, off, none⟩ L.length cap (intCells L) (by simp [intCells])
    (by
      intro j u hu
      have hj : j < L.length := by have := (List.getElem?_eq_some_iff.1 hu).1; simpa [intCells] using this
      have e : (intCells L)[j]? = some (.int .i64 (L.getD j 0)) := by simp [intCells, hj]
      rw [e] at hu
      rw [Addr.add_lit, hc j hj]
      exact hu)
    (by intro u hu; obtain ⟨_, _, rfl⟩ := List.mem_map.1 hu; rfl)

theorem src_ints {w : World} {B : Nat} {v : Value} {L : List Int} (h : Ints w B v L) : Src Try.prog 1 24 v L.length (intCells L) w := by
  obtain ⟨ao, cap, rfl, h1, h2, h3, h4⟩ := h
  by_cases hl : L = []
  · subst hl
    cases ao with
    | none => rw [h3 rfl]; exact Src.ofNil _ Try.underlying24 0
    | some a => exact Src.ofSlice _ Try.underlying24 a 0 cap [] rfl (by intro j u hj; simp at hj) (by intro u hu; cases hu)
  · obtain ⟨b, off, rfl, _, hc⟩ := h4 hl
    exact src_cells hc

theorem app1 {ops : Array Oper} {o : Oper} {a : Act} {w : World} {K : Act → World → Prop} {Q : Exit → Act → World → Prop} {E : Prop} (hgd : o.guard = none) (s x : Operand)
    (ho : o.op = .call { callee := .builtin .append, args := #[s, x], argTypes := #[24, 24] }) (base g : Nat) (xv : Value) (L : List Int) (hs : a.eval s = .slice (some ⟨g, 0, none⟩) 0 0) (hx : a.eval x = xv)
    (B : Nat) (hI : Ints w B xv L) (hn : L.length ≤ 50) (hg : w.heap[g]? = some (.cells #[] 3 (0, 0))) (hb : base ≤ g)
    (hK : ∀ a1 c1 w1, w1.ownsRow base 3 1 (.slice a1 L.length c1) L.length (intCells L) → Below base w w1 → (∀ k, k < w.heap.size → k ≠ g → w1.heap[k]? = w.heap[k]?) → K (a.put o.dst (.slice a1 L.length c1)) w1) :
    if Region.wanted o (yielded ops a.tmps) = true then Oper.wp Try.prog o a w K Q else E := by
  obtain ⟨i0, hi, hz0, hz1, hz2⟩ := info_parts info_int
  have hgl := lt_of_block hg
  have hown : w.ownsRow base 3 1 (.slice (some ⟨g, 0, none⟩) 0 0) 0 [] :=
    ⟨rfl, .inr ⟨g, 0, #[], rfl, hb, hg, Nat.le_refl _, Nat.zero_le _, rfl, rfl⟩⟩
  refine step_append_src hgd s x 24 24 ho base 3 i0 (.int .i64 0) 1 8 Try.underlying24 hi hz0 hz1 hz2 rfl _ 0 [] hs hown xv L.length (intCells L) hx (src_ints hI) (by unfold maxLen; omega) (by omega) (by omega) ?_
  intro v' w' ho' hg'
  rw [Nat.zero_add] at ho'
  obtain ⟨a1, c1, rfl⟩ := own_shape ho'
  refine hK a1 c1 w' ho' ((Below.refl _ _).grown hg' (by omega) (fun k hk => by simp [Value.ownBlock] at hk; omega)) (fun k hk hne => hg'.block k hk (by simp [Value.ownBlock]; exact hne))

theorem app2 {ops : Array Oper} {o : Oper} {a : Act} {w : World} {K : Act → World → Prop} {Q : Exit → Act → World → Prop} {E : Prop} (hgd : o.guard = none) (s x : Operand)
    (ho : o.op = .call { callee := .builtin .append, args := #[s, x], argTypes := #[24, 24] }) (base p : Nat) (v : Value) (L : List Int) (hs : a.eval s = v) (hx : a.eval x = .slice (some ⟨p, 0, none⟩) 1 1)
    (hown : w.ownsRow base 3 1 v L.length (intCells L)) (hn : L.length ≤ 50) (hp : w.heap[p]? = some (.cells #[.int .i64 1] 3 (0, 0))) (hb : base ≤ w.heap.size)
    (hK : ∀ a1 c1 w1, w1.ownsRow base 3 1 (.slice a1 (L.length + 1) c1) (L.length + 1) (intCells (L ++ [1])) → Below base w w1 → K (a.put o.dst (.slice a1 (L.length + 1) c1)) w1) :
    if Region.wanted o (yielded ops a.tmps) = true then Oper.wp Try.prog o a w K Q else E := by
  obtain ⟨i0, hi, hz0, hz1, hz2⟩ := info_parts info_int
  have hsrc : Src Try.prog 1 24 (.slice (some ⟨p, 0, none⟩) 1 1) 1 (intCells [1]) w := src_cells (L := [1]) (off := 0) (by
    intro j hj
    obtain rfl : j = 0 := by simp at hj; exact hj
    rw [cell_of_row _ _ _ _ _ _ hp]
    rfl)
  refine step_append_src hgd s x 24 24 ho base 3 i0 (.int .i64 0) 1 8 Try.underlying24 hi hz0 hz1 hz2 rfl v L.length (intCells L) hs hown _ 1 (intCells [1]) hx hsrc (by unfold maxLen; omega) (by omega) hb ?_
  intro v' w' ho' hg'
  have e2 : intCells L ++ intCells [1] = intCells (L ++ [1]) := by simp [intCells]
  rw [e2] at ho'
  obtain ⟨a1, c1, rfl⟩ := own_shape ho'
  exact hK a1 c1 w' ho' ((Below.refl _ _).grown hg' hb (fun k hk => (hown.lt k hk).1))

theorem rep_more (r1 r2 : Int) (r3 : ByteArray) (v v' : Value) (L L' : List Int) (B : Nat) (u : World) (hr : Ints u B v L) (hr' : Ints u B v' L') (hB : B ≤ u.heap.size) (hl : L.length ≤ 50) (hne : L ≠ L') :
    Calls Try.prog 9 #[.agg #[.int .i64 r1, .int .i64 r2, .string r3, v], .agg #[.int .i64 r1, .int .i64 r2, .string r3, v']] u fun e w' => e = .returned (.bool false) ∧ Below u.heap.size u w' :=
  samereply_any r1 r2 r1 r2 r3 r3 v v' L L' B u hr hr' hB (by omega) false (show _ = _ by rw [decide_eq_false hne]; simp)

theorem cell_apart {w : World} {p q : Addr} {u : Value} (h : q.block ≠ p.block) : (w.setCell p u).cell? q = w.cell? q := World.cell?_of_block (Below.heap_setCell _ _ _ _ h)

theorem new0 (w : World) (o : Obj) : (w.alloc o).drew.heap[w.heap.size]? = some o := heap_alloc_new w o
theorem new1 (w : World) (o1 o2 : Obj) : ((w.alloc o1).alloc o2).drew.heap[w.heap.size + 1]? = some o2 := by
  have := heap_alloc_new (w.alloc o1) o2
  rwa [alloc_size] at this
theorem old1 (w : World) (o1 o2 : Obj) : ((w.alloc o1).alloc o2).drew.heap[w.heap.size]? = some o1 :=
  (Below.heap_alloc (w.alloc o1) o2 _ (by rw [alloc_size]; omega)).trans (heap_alloc_new w o1)
theorem size2 (w : World) (o1 o2 : Obj) : ((w.alloc o1).alloc o2).drew.heap.size = w.heap.size + 2 := by
  show ((w.alloc o1).alloc o2).heap.size = _
  rw [alloc_size, alloc_size]

set_option maxHeartbeats 1000000 in
set_option maxRecDepth 100000 in
theorem p0 (a1 a2 a3 a4 a5 : Int) (a6 : ByteArray) (r1 r2 : Int) (r3 : ByteArray) (ra : Option Addr) (rn rc : Nat) (p : Int) (rl : List Int) (w : World) (hr : Ints w w.heap.size (.slice ra rn rc) rl) (hl : rl.length ≤ 50) (g0 : rn ≤ 50) (g1 : a6.size ≤ 300) (_ : r3.size ≤ 140737488351232) (hp : (IntKind.u64.wrap p).tmod 6 = 0) :
    Calls Try.prog 4 #[.agg #[.int .i64 a1, .int .i64 a2, .int .i64 a3, .int .i64 a4, .int .i64 a5, .string a6], .agg #[.int .i64 r1, .int .i64 r2, .string r3, .slice ra rn rc], .int .i64 p] w fun e w' => e = .returned (.bool true) ∧ Below w.heap.size w w' := by
  have HT := Lib.hid (fun u => told3_any u)
  have HS := Lib.hid (fun u => same_r a1 a2 a3 a4 a5 (bits .xor .i64 a1 1) a2 a3 a4 a5 a6 a6 false (by rw [x1 a1]; simp) u)
  have HU := Lib.hid (fun u => same_self (bits .xor .i64 a1 1) a2 a3 a4 a5 a6 u)
  have HR := Lib.hid (fun u hb => rep_other r1 r2 (bits .xor .i64 r1 1) r2 r3 r3 ra rn rc rl w u hr hl hb (by rw [x1 r1]; simp))
  clear hr hl
  go_enter Try.func4, Try.ntmps4
  go_upto_region 3 with fail
  go_cut [7, 8] (fun s7 s8 wr => Cut1 w wr s7 s8 a1 a2 a3 a4 a5 a6 r1 r2 r3 ra rn rc)
  case first =>
    go_region
    all_goals
      go_wp2
      go_meet
    case rel => exact cut1_a w a1 a2 a3 a4 a5 a6 r1 r2 r3 ra rn rc
    case rel => exact cut1_b w a1 a2 a3 a4 a5 a6 r1 r2 r3 ra rn rc
  case rest =>
    obtain ⟨B, S, rfl, rfl, ht⟩ := hcut
    obtain ⟨c0, c1, c2, c3, c4, c5⟩ := ht.a.cells
    obtain ⟨d0, d1, d2, d3⟩ := ht.r.cells
    obtain ⟨e0, e1, e2, e3, e4, e5⟩ := ht.b.cells
    obtain ⟨f0, f1, f2, f3⟩ := ht.s.cells
    have z0 := ht.b.free
    have z1 := rep_free ht.s
    have hne := ht.ne
    have hne' := ht.ne.symm
    have q0 : B ≠ w.heap.size := by have := ht.hB; have := ht.hS; omega
    have q1 : w.heap.size ≠ B := by have := ht.hB; have := ht.hS; omega
    have q2 : B ≠ w.heap.size + 1 := by have := ht.hB; have := ht.hS; omega
    have q3 : w.heap.size + 1 ≠ B := by have := ht.hB; have := ht.hS; omega
    have q4 : S ≠ w.heap.size := by have := ht.hB; have := ht.hS; omega
    have q5 : w.heap.size ≠ S := by have := ht.hB; have := ht.hS; omega
    have q6 : S ≠ w.heap.size + 1 := by have := ht.hB; have := ht.hS; omega
    have q7 : w.heap.size + 1 ≠ S := by have := ht.hB; have := ht.hS; omega
    have P0' : PT w ((wc.setCell ⟨B, 0, none⟩ (.int .i64 (bits .xor .i64 a1 1))).setCell ⟨S, 0, none⟩ (.int .i64 (bits .xor .i64 r1 1))) a1 a2 a3 a4 a5 a6 r1 r2 r3 (.slice ra rn rc) B S (bits .xor .i64 a1 1) a2 a3 a4 a5 a6 (bits .xor .i64 r1 1) r2 r3 (.slice ra rn rc) :=
      ⟨req_apart (req_apart ht.a q1 _) q5 _, rep_apart (rep_apart ht.r q3 _) q7 _, req_apart (req_set0 ht.b _) hne _, rep_set0 (rep_apart ht.s hne' _) _, ht.hB, ht.hS, ht.ne, (ht.bel.setCell (p := ⟨B, 0, none⟩) (Nat.le_trans (Nat.le_add_right _ _) ht.hB) _).setCell (p := ⟨S, 0, none⟩) (Nat.le_trans (Nat.le_add_right _ _) ht.hS) _⟩
    have P0 := Lib.hid P0'.drew
    clear P0'
    clear ht
    go_wp2
    go_region
    clear c0 c1 c2 c3 c4 c5 d0 d1 d2 d3 e0 e1 e2 e3 e4 e5 f0 f1 f2 f3 z0 z1 hne hne' q0 q1 q2 q3 q4 q5 q6 q7
    go_wp2_with fail
    refine (HT.out _).mono ?_
    rintro e w1 ⟨rfl, B1⟩
    have P1 := Lib.hid (P0.out.step B1)
    clear B1 P0
    obtain ⟨c0, c1, c2, c3, c4, c5⟩ := P1.out.a.cells
    obtain ⟨e0, e1, e2, e3, e4, e5⟩ := P1.out.b.cells
    go_wp2_with fail
    refine (HS.out _).mono ?_
    rintro e w2 ⟨rfl, B2⟩
    have P2 := Lib.hid (P1.out.step B2)
    clear B2 P1 c0 c1 c2 c3 c4 c5 e0 e1 e2 e3 e4 e5
    obtain ⟨d0, d1, d2, d3⟩ := P2.out.r.cells
    obtain ⟨f0, f1, f2, f3⟩ := P2.out.s.cells
    have W2 := P2.out.bel
    go_wp2_with fail
    refine (HR.out _ W2).mono ?_
    rintro e w3 ⟨rfl, B3⟩
    have P3 := Lib.hid (P2.out.step B3)
    clear B3 P2 d0 d1 d2 d3 f0 f1 f2 f3 W2
    obtain ⟨e0, e1, e2, e3, e4, e5⟩ := P3.out.b.cells
    go_wp2_with fail
    refine (HU.out _).mono ?_
    rintro e w4 ⟨rfl, B4⟩
    have C4 : Hid (Below w.heap.size w w4) := (P3.out.step B4).bel
    clear B4 P3 e0 e1 e2 e3 e4 e5
    go_wp2
    go_returns
    exact ⟨rfl, C4.out⟩

set_option maxHeartbeats 1000000 in
set_option maxRecDepth 100000 in
theorem p1 (a1 a2 a3 a4 a5 : Int) (a6 : ByteArray) (r1 r2 : Int) (r3 : ByteArray) (ra : Option Addr) (rn rc : Nat) (p : Int) (rl : List Int) (w : World) (hr : Ints w w.heap.size (.slice ra rn rc) rl) (hl : rl.length ≤ 50) (g0 : rn ≤ 50) (g1 : a6.size ≤ 300) (_ : r3.size ≤ 140737488351232) (hp : (IntKind.u64.wrap p).tmod 6 = 1) :
    Calls Try.prog 4 #[.agg #[.int .i64 a1, .int .i64 a2, .int .i64 a3, .int .i64 a4, .int .i64 a5, .string a6], .agg #[.int .i64 r1, .int .i64 r2, .string r3, .slice ra rn rc], .int .i64 p] w fun e w' => e = .returned (.bool true) ∧ Below w.heap.size w w' := by
  have HT := Lib.hid (fun u => told3_any u)
  have HS := Lib.hid (fun u => same_r a1 a2 a3 a4 a5 a1 (bits .xor .i64 a2 1) a3 a4 a5 a6 a6 false (by rw [x1 a2]; simp) u)
  have HU := Lib.hid (fun u => same_self a1 (bits .xor .i64 a2 1) a3 a4 a5 a6 u)
  have HR := Lib.hid (fun u hb => rep_other r1 r2 r1 (bits .xor .i64 r2 1) r3 r3 ra rn rc rl w u hr hl hb (by rw [x1 r2]; simp))
  clear hr hl
  go_enter Try.func4, Try.ntmps4
  go_upto_region 3 with fail
  go_cut [7, 8] (fun s7 s8 wr => Cut1 w wr s7 s8 a1 a2 a3 a4 a5 a6 r1 r2 r3 ra rn rc)
  case first =>
    go_region
    all_goals
      go_wp2
      go_meet
    case rel => exact cut1_a w a1 a2 a3 a4 a5 a6 r1 r2 r3 ra rn rc
    case rel => exact cut1_b w a1 a2 a3 a4 a5 a6 r1 r2 r3 ra rn rc
  case rest =>
    obtain ⟨B, S, rfl, rfl, ht⟩ := hcut
    obtain ⟨c0, c1, c2, c3, c4, c5⟩ := ht.a.cells
    obtain ⟨d0, d1, d2, d3⟩ := ht.r.cells
    obtain ⟨e0, e1, e2, e3, e4, e5⟩ := ht.b.cells
    obtain ⟨f0, f1, f2, f3⟩ := ht.s.cells
    have z0 := ht.b.free
    have z1 := rep_free ht.s
    have hne := ht.ne
    have hne' := ht.ne.symm
    have q0 : B ≠ w.heap.size := by have := ht.hB; have := ht.hS; omega
    have q1 : w.heap.size ≠ B := by have := ht.hB; have := ht.hS; omega
    have q2 : B ≠ w.heap.size + 1 := by have := ht.hB; have := ht.hS; omega
    have q3 : w.heap.size + 1 ≠ B := by have := ht.hB; have := ht.hS; omega
    have q4 : S ≠ w.heap.size := by have := ht.hB; have := ht.hS; omega
    have q5 : w.heap.size ≠ S := by have := ht.hB; have := ht.hS; omega
    have q6 : S ≠ w.heap.size + 1 := by have := ht.hB; have := ht.hS; omega
    have q7 : w.heap.size + 1 ≠ S := by have := ht.hB; have := ht.hS; omega
    have P0' : PT w ((wc.setCell ⟨B, 1, none⟩ (.int .i64 (bits .xor .i64 a2 1))).setCell ⟨S, 1, none⟩ (.int .i64 (bits .xor .i64 r2 1))) a1 a2 a3 a4 a5 a6 r1 r2 r3 (.slice ra rn rc) B S a1 (bits .xor .i64 a2 1) a3 a4 a5 a6 r1 (bits .xor .i64 r2 1) r3 (.slice ra rn rc) :=
      ⟨req_apart (req_apart ht.a q1 _) q5 _, rep_apart (rep_apart ht.r q3 _) q7 _, req_apart (req_set1 ht.b _) hne _, rep_set1 (rep_apart ht.s hne' _) _, ht.hB, ht.hS, ht.ne, (ht.bel.setCell (p := ⟨B, 1, none⟩) (Nat.le_trans (Nat.le_add_right _ _) ht.hB) _).setCell (p := ⟨S, 1, none⟩) (Nat.le_trans (Nat.le_add_right _ _) ht.hS) _⟩
    have P0 := Lib.hid P0'.drew
    clear P0'
    clear ht
    go_wp2
    go_region
    clear c0 c1 c2 c3 c4 c5 d0 d1 d2 d3 e0 e1 e2 e3 e4 e5 f0 f1 f2 f3 z0 z1 hne hne' q0 q1 q2 q3 q4 q5 q6 q7
    go_wp2_with fail
    refine (HT.out _).mono ?_
    rintro e w1 ⟨rfl, B1⟩
    have P1 := Lib.hid (P0.out.step B1)
    clear B1 P0
    obtain ⟨c0, c1, c2, c3, c4, c5⟩ := P1.out.a.cells
    obtain ⟨e0, e1, e2, e3, e4, e5⟩ := P1.out.b.cells
    go_wp2_with fail
    refine (HS.out _).mono ?_
    rintro e w2 ⟨rfl, B2⟩
    have P2 := Lib.hid (P1.out.step B2)
    clear B2 P1 c0 c1 c2 c3 c4 c5 e0 e1 e2 e3 e4 e5
    obtain ⟨d0, d1, d2, d3⟩ := P2.out.r.cells
    obtain ⟨f0, f1, f2, f3⟩ := P2.out.s.cells
    have W2 := P2.out.bel
    go_wp2_with fail
    refine (HR.out _ W2).mono ?_
    rintro e w3 ⟨rfl, B3⟩
    have P3 := Lib.hid (P2.out.step B3)
    clear B3 P2 d0 d1 d2 d3 f0 f1 f2 f3 W2
    obtain ⟨e0, e1, e2, e3, e4, e5⟩ := P3.out.b.cells
    go_wp2_with fail
    refine (HU.out _).mono ?_
    rintro e w4 ⟨rfl, B4⟩
    have C4 : Hid (Below w.heap.size w w4) := (P3.out.step B4).bel
    clear B4 P3 e0 e1 e2 e3 e4 e5
    go_wp2
    go_returns
    exact ⟨rfl, C4.out⟩

set_option maxHeartbeats 1000000 in
set_option maxRecDepth 100000 in
theorem p2 (a1 a2 a3 a4 a5 : Int) (a6 : ByteArray) (r1 r2 : Int) (r3 : ByteArray) (ra : Option Addr) (rn rc : Nat) (p : Int) (rl : List Int) (w : World) (hr : Ints w w.heap.size (.slice ra rn rc) rl) (hl : rl.length ≤ 50) (g0 : rn ≤ 50) (g1 : a6.size ≤ 300) (gr : r3.size ≤ 140737488351232) (hp : (IntKind.u64.wrap p).tmod 6 = 2) :
    Calls Try.prog 4 #[.agg #[.int .i64 a1, .int .i64 a2, .int .i64 a3, .int .i64 a4, .int .i64 a5, .string a6], .agg #[.int .i64 r1, .int .i64 r2, .string r3, .slice ra rn rc], .int .i64 p] w fun e w' => e = .returned (.bool true) ∧ Below w.heap.size w w' := by
  have HT := Lib.hid (fun u => told3_any u)
  have HS := Lib.hid (fun u => same_r a1 a2 a3 a4 a5 a1 a2 (bits .xor .i64 a3 1) a4 a5 a6 a6 false (by rw [x1 a3]; simp) u)
  have HU := Lib.hid (fun u => same_self a1 a2 (bits .xor .i64 a3 1) a4 a5 a6 u)
  have HR := Lib.hid (fun u hb => rep_other r1 r2 r1 r2 r3 (r3 ++ ⟨#[120]⟩) ra rn rc rl w u hr hl hb (by rw [longer r3]; simp))
  clear hr hl
  go_enter Try.func4, Try.ntmps4
  go_upto_region 3 with fail
  go_cut [7, 8] (fun s7 s8 wr => Cut1 w wr s7 s8 a1 a2 a3 a4 a5 a6 r1 r2 r3 ra rn rc)
  case first =>
    go_region
    all_goals
      go_wp2
      go_meet
    case rel => exact cut1_a w a1 a2 a3 a4 a5 a6 r1 r2 r3 ra rn rc
    case rel => exact cut1_b w a1 a2 a3 a4 a5 a6 r1 r2 r3 ra rn rc
  case rest =>
    obtain ⟨B, S, rfl, rfl, ht⟩ := hcut
    obtain ⟨c0, c1, c2, c3, c4, c5⟩ := ht.a.cells
    obtain ⟨d0, d1, d2, d3⟩ := ht.r.cells
    obtain ⟨e0, e1, e2, e3, e4, e5⟩ := ht.b.cells
    obtain ⟨f0, f1, f2, f3⟩ := ht.s.cells
    have z0 := ht.b.free
    have z1 := rep_free ht.s
    have hne := ht.ne
    have hne' := ht.ne.symm
    have q0 : B ≠ w.heap.size := by have := ht.hB; have := ht.hS; omega
    have q1 : w.heap.size ≠ B := by have := ht.hB; have := ht.hS; omega
    have q2 : B ≠ w.heap.size + 1 := by have := ht.hB; have := ht.hS; omega
    have q3 : w.heap.size + 1 ≠ B := by have := ht.hB; have := ht.hS; omega
    have q4 : S ≠ w.heap.size := by have := ht.hB; have := ht.hS; omega
    have q5 : w.heap.size ≠ S := by have := ht.hB; have := ht.hS; omega
    have q6 : S ≠ w.heap.size + 1 := by have := ht.hB; have := ht.hS; omega
    have q7 : w.heap.size + 1 ≠ S := by have := ht.hB; have := ht.hS; omega
    have P0' : PT w ((wc.setCell ⟨B, 2, none⟩ (.int .i64 (bits .xor .i64 a3 1))).setCell ⟨S, 2, none⟩ (.string (r3 ++ ⟨#[120]⟩))) a1 a2 a3 a4 a5 a6 r1 r2 r3 (.slice ra rn rc) B S a1 a2 (bits .xor .i64 a3 1) a4 a5 a6 r1 r2 (r3 ++ ⟨#[120]⟩) (.slice ra rn rc) :=
      ⟨req_apart (req_apart ht.a q1 _) q5 _, rep_apart (rep_apart ht.r q3 _) q7 _, req_apart (req_set2 ht.b _) hne _, rep_set2 (rep_apart ht.s hne' _) _, ht.hB, ht.hS, ht.ne, (ht.bel.setCell (p := ⟨B, 2, none⟩) (Nat.le_trans (Nat.le_add_right _ _) ht.hB) _).setCell (p := ⟨S, 2, none⟩) (Nat.le_trans (Nat.le_add_right _ _) ht.hS) _⟩
    have P0 := Lib.hid P0'.drew
    clear P0'
    clear ht
    go_wp2
    go_region
    clear c0 c1 c2 c3 c4 c5 d0 d1 d2 d3 e0 e1 e2 e3 e4 e5 f0 f1 f2 f3 z0 z1 hne hne' q0 q1 q2 q3 q4 q5 q6 q7
    go_wp2_with fail
    refine (HT.out _).mono ?_
    rintro e w1 ⟨rfl, B1⟩
    have P1 := Lib.hid (P0.out.step B1)
    clear B1 P0
    obtain ⟨c0, c1, c2, c3, c4, c5⟩ := P1.out.a.cells
    obtain ⟨e0, e1, e2, e3, e4, e5⟩ := P1.out.b.cells
    go_wp2_with fail
    refine (HS.out _).mono ?_
    rintro e w2 ⟨rfl, B2⟩
    have P2 := Lib.hid (P1.out.step B2)
    clear B2 P1 c0 c1 c2 c3 c4 c5 e0 e1 e2 e3 e4 e5
    obtain ⟨d0, d1, d2, d3⟩ := P2.out.r.cells
    obtain ⟨f0, f1, f2, f3⟩ := P2.out.s.cells
    have W2 := P2.out.bel
    go_wp2_with fail
    refine (HR.out _ W2).mono ?_
    rintro e w3 ⟨rfl, B3⟩
    have P3 := Lib.hid (P2.out.step B3)
    clear B3 P2 d0 d1 d2 d3 f0 f1 f2 f3 W2
    obtain ⟨e0, e1, e2, e3, e4, e5⟩ := P3.out.b.cells
    go_wp2_with fail
    refine (HU.out _).mono ?_
    rintro e w4 ⟨rfl, B4⟩
    have C4 : Hid (Below w.heap.size w w4) := (P3.out.step B4).bel
    clear B4 P3 e0 e1 e2 e3 e4 e5
    go_wp2
    go_returns
    exact ⟨rfl, C4.out⟩

set_option maxHeartbeats 1000000 in
set_option maxRecDepth 100000 in
theorem p4 (a1 a2 a3 a4 a5 : Int) (a6 : ByteArray) (r1 r2 : Int) (r3 : ByteArray) (ra : Option Addr) (rn rc : Nat) (p : Int) (rl : List Int) (w : World) (hr : Ints w w.heap.size (.slice ra rn rc) rl) (hl : rl.length ≤ 50) (g0 : rn ≤ 50) (g1 : a6.size ≤ 300) (_ : r3.size ≤ 140737488351232) (hp : (IntKind.u64.wrap p).tmod 6 = 4) :
    Calls Try.prog 4 #[.agg #[.int .i64 a1, .int .i64 a2, .int .i64 a3, .int .i64 a4, .int .i64 a5, .string a6], .agg #[.int .i64 r1, .int .i64 r2, .string r3, .slice ra rn rc], .int .i64 p] w fun e w' => e = .returned (.bool true) ∧ Below w.heap.size w w' := by
  have HT := Lib.hid (fun u => told3_any u)
  have HS := Lib.hid (fun u => same_r a1 a2 a3 a4 a5 a1 a2 a3 a4 (bits .xor .i64 a5 1) a6 a6 false (by rw [x1 a5]; simp) u)
  have HU := Lib.hid (fun u => same_self a1 a2 a3 a4 (bits .xor .i64 a5 1) a6 u)
  have HR := Lib.hid (fun u hb => rep_other r1 r2 (bits .xor .i64 r1 2) r2 r3 r3 ra rn rc rl w u hr hl hb (by rw [x2 r1]; simp))
  clear hr hl
  go_enter Try.func4, Try.ntmps4
  go_upto_region 3 with fail
  go_cut [7, 8] (fun s7 s8 wr => Cut1 w wr s7 s8 a1 a2 a3 a4 a5 a6 r1 r2 r3 ra rn rc)
  case first =>
    go_region
    all_goals
      go_wp2
      go_meet
    case rel => exact cut1_a w a1 a2 a3 a4 a5 a6 r1 r2 r3 ra rn rc
    case rel => exact cut1_b w a1 a2 a3 a4 a5 a6 r1 r2 r3 ra rn rc
  case rest =>
    obtain ⟨B, S, rfl, rfl, ht⟩ := hcut
    obtain ⟨c0, c1, c2, c3, c4, c5⟩ := ht.a.cells
    obtain ⟨d0, d1, d2, d3⟩ := ht.r.cells
    obtain ⟨e0, e1, e2, e3, e4, e5⟩ := ht.b.cells
    obtain ⟨f0, f1, f2, f3⟩ := ht.s.cells
    have z0 := ht.b.free
    have z1 := rep_free ht.s
    have hne := ht.ne
    have hne' := ht.ne.symm
    have q0 : B ≠ w.heap.size := by have := ht.hB; have := ht.hS; omega
    have q1 : w.heap.size ≠ B := by have := ht.hB; have := ht.hS; omega
    have q2 : B ≠ w.heap.size + 1 := by have := ht.hB; have := ht.hS; omega
    have q3 : w.heap.size + 1 ≠ B := by have := ht.hB; have := ht.hS; omega
    have q4 : S ≠ w.heap.size := by have := ht.hB; have := ht.hS; omega
    have q5 : w.heap.size ≠ S := by have := ht.hB; have := ht.hS; omega
    have q6 : S ≠ w.heap.size + 1 := by have := ht.hB; have := ht.hS; omega
    have q7 : w.heap.size + 1 ≠ S := by have := ht.hB; have := ht.hS; omega
    have P0' : PT w ((wc.setCell ⟨B, 4, none⟩ (.int .i64 (bits .xor .i64 a5 1))).setCell ⟨S, 0, none⟩ (.int .i64 (bits .xor .i64 r1 2))) a1 a2 a3 a4 a5 a6 r1 r2 r3 (.slice ra rn rc) B S a1 a2 a3 a4 (bits .xor .i64 a5 1) a6 (bits .xor .i64 r1 2) r2 r3 (.slice ra rn rc) :=
      ⟨req_apart (req_apart ht.a q1 _) q5 _, rep_apart (rep_apart ht.r q3 _) q7 _, req_apart (req_set4 ht.b _) hne _, rep_set0 (rep_apart ht.s hne' _) _, ht.hB, ht.hS, ht.ne, (ht.bel.setCell (p := ⟨B, 4, none⟩) (Nat.le_trans (Nat.le_add_right _ _) ht.hB) _).setCell (p := ⟨S, 0, none⟩) (Nat.le_trans (Nat.le_add_right _ _) ht.hS) _⟩
    have P0 := Lib.hid P0'.drew
    clear P0'
    clear ht
    go_wp2
    go_region
    clear c0 c1 c2 c3 c4 c5 d0 d1 d2 d3 e0 e1 e2 e3 e4 e5 f0 f1 f2 f3 z0 z1 hne hne' q0 q1 q2 q3 q4 q5 q6 q7
    go_wp2_with fail
    refine (HT.out _).mono ?_
    rintro e w1 ⟨rfl, B1⟩
    have P1 := Lib.hid (P0.out.step B1)
    clear B1 P0
    obtain ⟨c0, c1, c2, c3, c4, c5⟩ := P1.out.a.cells
    obtain ⟨e0, e1, e2, e3, e4, e5⟩ := P1.out.b.cells
    go_wp2_with fail
    refine (HS.out _).mono ?_
    rintro e w2 ⟨rfl, B2⟩
    have P2 := Lib.hid (P1.out.step B2)
    clear B2 P1 c0 c1 c2 c3 c4 c5 e0 e1 e2 e3 e4 e5
    obtain ⟨d0, d1, d2, d3⟩ := P2.out.r.cells
    obtain ⟨f0, f1, f2, f3⟩ := P2.out.s.cells
    have W2 := P2.out.bel
    go_wp2_with fail
    refine (HR.out _ W2).mono ?_
    rintro e w3 ⟨rfl, B3⟩
    have P3 := Lib.hid (P2.out.step B3)
    clear B3 P2 d0 d1 d2 d3 f0 f1 f2 f3 W2
    obtain ⟨e0, e1, e2, e3, e4, e5⟩ := P3.out.b.cells
    go_wp2_with fail
    refine (HU.out _).mono ?_
    rintro e w4 ⟨rfl, B4⟩
    have C4 : Hid (Below w.heap.size w w4) := (P3.out.step B4).bel
    clear B4 P3 e0 e1 e2 e3 e4 e5
    go_wp2
    go_returns
    exact ⟨rfl, C4.out⟩

set_option maxHeartbeats 1000000 in
set_option maxRecDepth 100000 in
theorem p5 (a1 a2 a3 a4 a5 : Int) (a6 : ByteArray) (r1 r2 : Int) (r3 : ByteArray) (ra : Option Addr) (rn rc : Nat) (p : Int) (rl : List Int) (w : World) (hr : Ints w w.heap.size (.slice ra rn rc) rl) (hl : rl.length ≤ 50) (g0 : rn ≤ 50) (g1 : a6.size ≤ 300) (_ : r3.size ≤ 140737488351232) (hp : (IntKind.u64.wrap p).tmod 6 = 5) :
    Calls Try.prog 4 #[.agg #[.int .i64 a1, .int .i64 a2, .int .i64 a3, .int .i64 a4, .int .i64 a5, .string a6], .agg #[.int .i64 r1, .int .i64 r2, .string r3, .slice ra rn rc], .int .i64 p] w fun e w' => e = .returned (.bool true) ∧ Below w.heap.size w w' := by
  have HT := Lib.hid (fun u => told3_any u)
  have HS := Lib.hid (fun u => same_r a1 a2 a3 a4 a5 a1 a2 a3 a4 a5 a6 (a6 ++ ⟨#[120]⟩) false (by rw [longer a6]; simp) u)
  have HU := Lib.hid (fun u => same_self a1 a2 a3 a4 a5 (a6 ++ ⟨#[120]⟩) u)
  have HR := Lib.hid (fun u hb => rep_other r1 r2 r1 (bits .xor .i64 r2 2) r3 r3 ra rn rc rl w u hr hl hb (by rw [x2 r2]; simp))
  clear hr hl
  go_enter Try.func4, Try.ntmps4
  go_upto_region 3 with fail
  go_cut [7, 8] (fun s7 s8 wr => Cut1 w wr s7 s8 a1 a2 a3 a4 a5 a6 r1 r2 r3 ra rn rc)
  case first =>
    go_region
    all_goals
      go_wp2
      go_meet
    case rel => exact cut1_a w a1 a2 a3 a4 a5 a6 r1 r2 r3 ra rn rc
    case rel => exact cut1_b w a1 a2 a3 a4 a5 a6 r1 r2 r3 ra rn rc
  case rest =>
    obtain ⟨B, S, rfl, rfl, ht⟩ := hcut
    obtain ⟨c0, c1, c2, c3, c4, c5⟩ := ht.a.cells
    obtain ⟨d0, d1, d2, d3⟩ := ht.r.cells
    obtain ⟨e0, e1, e2, e3, e4, e5⟩ := ht.b.cells
    obtain ⟨f0, f1, f2, f3⟩ := ht.s.cells
    have z0 := ht.b.free
    have z1 := rep_free ht.s
    have hne := ht.ne
    have hne' := ht.ne.symm
    have q0 : B ≠ w.heap.size := by have := ht.hB; have := ht.hS; omega
    have q1 : w.heap.size ≠ B := by have := ht.hB; have := ht.hS; omega
    have q2 : B ≠ w.heap.size + 1 := by have := ht.hB; have := ht.hS; omega
    have q3 : w.heap.size + 1 ≠ B := by have := ht.hB; have := ht.hS; omega
    have q4 : S ≠ w.heap.size := by have := ht.hB; have := ht.hS; omega
    have q5 : w.heap.size ≠ S := by have := ht.hB; have := ht.hS; omega
    have q6 : S ≠ w.heap.size + 1 := by have := ht.hB; have := ht.hS; omega
    have q7 : w.heap.size + 1 ≠ S := by have := ht.hB; have := ht.hS; omega
    have P0' : PT w ((wc.setCell ⟨B, 5, none⟩ (.string (a6 ++ ⟨#[120]⟩))).setCell ⟨S, 1, none⟩ (.int .i64 (bits .xor .i64 r2 2))) a1 a2 a3 a4 a5 a6 r1 r2 r3 (.slice ra rn rc) B S a1 a2 a3 a4 a5 (a6 ++ ⟨#[120]⟩) r1 (bits .xor .i64 r2 2) r3 (.slice ra rn rc) :=
      ⟨req_apart (req_apart ht.a q1 _) q5 _, rep_apart (rep_apart ht.r q3 _) q7 _, req_apart (req_set5 ht.b _) hne _, rep_set1 (rep_apart ht.s hne' _) _, ht.hB, ht.hS, ht.ne, (ht.bel.setCell (p := ⟨B, 5, none⟩) (Nat.le_trans (Nat.le_add_right _ _) ht.hB) _).setCell (p := ⟨S, 1, none⟩) (Nat.le_trans (Nat.le_add_right _ _) ht.hS) _⟩
    have P0 := Lib.hid P0'.drew
    clear P0'
    clear ht
    go_wp2
    go_region
    clear c0 c1 c2 c3 c4 c5 d0 d1 d2 d3 e0 e1 e2 e3 e4 e5 f0 f1 f2 f3 z0 z1 hne hne' q0 q1 q2 q3 q4 q5 q6 q7
    go_wp2_with fail
    refine (HT.out _).mono ?_
    rintro e w1 ⟨rfl, B1⟩
    have P1 := Lib.hid (P0.out.step B1)
    clear B1 P0
    obtain ⟨c0, c1, c2, c3, c4, c5⟩ := P1.out.a.cells
    obtain ⟨e0, e1, e2, e3, e4, e5⟩ := P1.out.b.cells
    go_wp2_with fail
    refine (HS.out _).mono ?_
    rintro e w2 ⟨rfl, B2⟩
    have P2 := Lib.hid (P1.out.step B2)
    clear B2 P1 c0 c1 c2 c3 c4 c5 e0 e1 e2 e3 e4 e5
    obtain ⟨d0, d1, d2, d3⟩ := P2.out.r.cells
    obtain ⟨f0, f1, f2, f3⟩ := P2.out.s.cells
    have W2 := P2.out.bel
    go_wp2_with fail
    refine (HR.out _ W2).mono ?_
    rintro e w3 ⟨rfl, B3⟩
    have P3 := Lib.hid (P2.out.step B3)
    clear B3 P2 d0 d1 d2 d3 f0 f1 f2 f3 W2
    obtain ⟨e0, e1, e2, e3, e4, e5⟩ := P3.out.b.cells
    go_wp2_with fail
    refine (HU.out _).mono ?_
    rintro e w4 ⟨rfl, B4⟩
    have C4 : Hid (Below w.heap.size w w4) := (P3.out.step B4).bel
    clear B4 P3 e0 e1 e2 e3 e4 e5
    go_wp2
    go_returns
    exact ⟨rfl, C4.out⟩

set_option maxHeartbeats 2000000 in
set_option maxRecDepth 100000 in
theorem p3 (a1 a2 a3 a4 a5 : Int) (a6 : ByteArray) (r1 r2 : Int) (r3 : ByteArray) (ra : Option Addr) (rc : Nat) (p : Int) (rl : List Int) (w : World) (hr : Ints w w.heap.size (.slice ra rl.length rc) rl) (hl : rl.length ≤ 50) (g1 : a6.size ≤ 300) (hp : (IntKind.u64.wrap p).tmod 6 = 3) :
    Calls Try.prog 4 #[.agg #[.int .i64 a1, .int .i64 a2, .int .i64 a3, .int .i64 a4, .int .i64 a5, .string a6], .agg #[.int .i64 r1, .int .i64 r2, .string r3, .slice ra rl.length rc], .int .i64 p] w fun e w' => e = .returned (.bool true) ∧ Below w.heap.size w w' := by
  have HT := Lib.hid (fun u => told3_any u)
  have HS := Lib.hid (fun u => same_r a1 a2 a3 a4 a5 a1 a2 a3 (bits .xor .i64 a4 1) a5 a6 a6 false (by rw [x1 a4]; simp) u)
  have HU := Lib.hid (fun u => same_self a1 a2 a3 (bits .xor .i64 a4 1) a5 a6 u)
  obtain ⟨rn, hrn⟩ : ∃ n, n = rl.length := ⟨_, rfl⟩
  have HL := Lib.hid hl
  have HN := Lib.hid hrn
  have HI : Hid (∀ u, Below w.heap.size w u → Ints u w.heap.size (.slice ra rn rc) rl) := by intro u hb; rw [HN.out]; exact hr.keep hb
  rw [← hrn] at hl ⊢
  clear hr hrn
  go_enter Try.func4, Try.ntmps4
  go_upto_region 3 with fail
  go_cut [7, 8] (fun s7 s8 wr => Cut1 w wr s7 s8 a1 a2 a3 a4 a5 a6 r1 r2 r3 ra rn rc)
  case first =>
    go_region
    all_goals
      go_wp2
      go_meet
    case rel => exact cut1_a w a1 a2 a3 a4 a5 a6 r1 r2 r3 ra rn rc
    case rel => exact cut1_b w a1 a2 a3 a4 a5 a6 r1 r2 r3 ra rn rc
  case rest =>
    obtain ⟨B, S, rfl, rfl, ht⟩ := hcut
    have c3 := ht.a.cells.2.2.2.1
    have d3 := ht.r.cells.2.2.2
    have hne := ht.ne
    have hne' := ht.ne.symm
    have q0 : B ≠ w.heap.size := by have := ht.hB; have := ht.hS; omega
    have q1 : w.heap.size ≠ B := by have := ht.hB; have := ht.hS; omega
    have q2 : B ≠ w.heap.size + 1 := by have := ht.hB; have := ht.hS; omega
    have q3 : w.heap.size + 1 ≠ B := by have := ht.hB; have := ht.hS; omega
    have q4 : S ≠ w.heap.size := by have := ht.hB; have := ht.hS; omega
    have q5 : w.heap.size ≠ S := by have := ht.hB; have := ht.hS; omega
    have q6 : S ≠ w.heap.size + 1 := by have := ht.hB; have := ht.hS; omega
    have q7 : w.heap.size + 1 ≠ S := by have := ht.hB; have := ht.hS; omega
    have PW := Lib.hid ht
    have HB := Lib.hid ht.bel
    have lB := Lib.hid ht.b.lt
    have lS := Lib.hid ht.s.lt
    clear ht
    go_wp2
    go_region_held3 (fun v => v.cell? ⟨w.heap.size, 3, none⟩ = some (.int .i64 a4) ∧ v.cell? ⟨w.heap.size + 1, 3, none⟩ = some (.slice ra rn rc))
      (first | exact ⟨c3, d3⟩ | exact ⟨(cell_apart q1).trans c3, (cell_apart q3).trans d3⟩ | exact ⟨((cell_apart q5).trans (cell_apart q1)).trans c3, ((cell_apart q7).trans (cell_apart q3)).trans d3⟩ | (refine ⟨?_, ?_⟩ <;> first | assumption | go_keep))
      (first
        | (refine app1 rfl (.tmp 69) (.tmp 71) rfl wc.heap.size _ (.slice ra rn rc) rl rfl rfl w.heap.size (HI.out _ (HB.out.trans (Below.mono (show Below wc.heap.size wc _ by go_grown) HB.out.size))) HL.out (by first | exact new0 _ _ | exact new1 _ _ _ | exact old1 _ _ _) (by omega) ?_
           intro x1 y1 w1 O1 N1 k1
           have M1 := Lib.hid ((show Below wc.heap.size wc _ by go_grown).trans N1)
           have OH := Lib.hid O1
           have KP := Lib.hid k1
           have c3 := (PW.out.step M1.out).a.cells.2.2.2.1
           have d3 := (PW.out.step M1.out).r.cells.2.2.2
           clear O1 N1 k1)
        | (refine app2 rfl (.tmp 72) (.tmp 73) rfl wc.heap.size _ _ rl rfl rfl (by first | exact OH.out | exact own_below OH.out ((Below.refl _ _).alloc (Nat.le_refl _) _)) HL.out (by first | exact heap_alloc_new _ _ | exact (KP.out _ (by rw [size2]; omega) (by omega)).trans (new1 _ _ _) | exact (KP.out _ (by rw [size2]; omega) (by omega)).trans (old1 _ _ _)) (by have := M1.out.size; first | exact this | (rw [alloc_size]; omega)) ?_
           intro x2 y2 w2 O2 N2
           have M2 := Lib.hid (M1.out.trans ((show Below wc.heap.size w1 _ by first | exact Below.refl _ _ | exact (Below.refl _ _).alloc M1.out.size _).trans N2))
           have OG := Lib.hid O2
           have c3 := (PW.out.step M2.out).a.cells.2.2.2.1
           have d3 := (PW.out.step M2.out).r.cells.2.2.2
           have e3 := (PW.out.step M2.out).b.cells.2.2.2.1
           have f3 := (PW.out.step M2.out).s.cells.2.2.2
           have z0 := (PW.out.step M2.out).b.free
           have z1 := rep_free (PW.out.step M2.out).s
           clear O2 N2))
    all_goals
      have P2 := PW.out.step M2.out
      have P0' : PT w ((w2.setCell ⟨B, 3, none⟩ (.int .i64 (bits .xor .i64 a4 1))).setCell ⟨S, 3, none⟩ (.slice x2 (rl.length + 1) y2)) a1 a2 a3 a4 a5 a6 r1 r2 r3 (.slice ra rn rc) B S a1 a2 a3 (bits .xor .i64 a4 1) a5 a6 r1 r2 r3 (.slice x2 (rl.length + 1) y2) :=
        ⟨req_apart (req_apart P2.a q1 _) q5 _, rep_apart (rep_apart P2.r q3 _) q7 _, req_apart (req_set3 P2.b _) hne _, rep_set3 (rep_apart P2.s hne' _) _, P2.hB, P2.hS, P2.ne, (P2.bel.setCell (p := ⟨B, 3, none⟩) (Nat.le_trans (Nat.le_add_right _ _) P2.hB) _).setCell (p := ⟨S, 3, none⟩) (Nat.le_trans (Nat.le_add_right _ _) P2.hS) _⟩
      have P0 := Lib.hid P0'
      have I0 := Lib.hid (ints_own (own_grown (own_grown OG.out (grownBy_setCell w2 B 3 (.int .i64 (bits .xor .i64 a4 1))) lB.out) (grownBy_setCell _ S 3 (.slice x2 (rl.length + 1) y2)) lS.out) (Nat.le_refl _))
      clear P0' P2 c3 d3 e3 f3 z0 z1 hne hne' q0 q1 q2 q3 q4 q5 q6 q7 M1 M2 OH OG KP lB lS PW
      go_wp2_with fail
      refine (HT.out _).mono ?_
      rintro e w3 ⟨rfl, B1⟩
      have P1 := Lib.hid (P0.out.step B1)
      have I1 := Lib.hid ((I0.out.keep B1).mono B1.size)
      clear B1 P0 I0
      obtain ⟨c0, c1, c2, c3, c4, c5⟩ := P1.out.a.cells
      obtain ⟨e0, e1, e2, e3, e4, e5⟩ := P1.out.b.cells
      go_wp2_with fail
      refine (HS.out _).mono ?_
      rintro e w4 ⟨rfl, B2⟩
      have P2 := Lib.hid (P1.out.step B2)
      have I2 := Lib.hid ((I1.out.keep B2).mono B2.size)
      clear B2 P1 I1 c0 c1 c2 c3 c4 c5 e0 e1 e2 e3 e4 e5
      obtain ⟨d0, d1, d2, d3⟩ := P2.out.r.cells
      obtain ⟨f0, f1, f2, f3⟩ := P2.out.s.cells
      have HR := Lib.hid (rep_more r1 r2 r3 (.slice ra rn rc) (.slice x2 (rl.length + 1) y2) rl (rl ++ [1]) _ w4 ((HI.out _ P2.out.bel).mono P2.out.bel.size) I2.out (Nat.le_refl _) HL.out (by intro h; have := congrArg List.length h; simp at this))
      go_wp2_with fail
      refine HR.out.mono ?_
      rintro e w5 ⟨rfl, B3⟩
      have P3 := Lib.hid (P2.out.step B3)
      clear B3 P2 I2 HR d0 d1 d2 d3 f0 f1 f2 f3
      obtain ⟨e0, e1, e2, e3, e4, e5⟩ := P3.out.b.cells
      go_wp2_with fail
      refine (HU.out _).mono ?_
      rintro e w6 ⟨rfl, B4⟩
      have C4 : Hid (Below w.heap.size w w6) := (P3.out.step B4).bel
      clear B4 P3 e0 e1 e2 e3 e4 e5
      go_wp2
      go_returns
      exact ⟨rfl, C4.out⟩

set_option maxHeartbeats 1000000 in
set_option maxRecDepth 100000 in
theorem many0 (a1 a2 a3 a4 a5 : Int) (a6 : ByteArray) (r1 r2 : Int) (r3 : ByteArray) (ra : Option Addr) (rn rc : Nat) (p : Int) (w : World) (g0 : 50 < rn) :
    Calls Try.prog 4 #[.agg #[.int .i64 a1, .int .i64 a2, .int .i64 a3, .int .i64 a4, .int .i64 a5, .string a6], .agg #[.int .i64 r1, .int .i64 r2, .string r3, .slice ra rn rc], .int .i64 p] w fun e w' => e = .returned (.bool true) ∧ Below w.heap.size w w' := by
  have HT := Lib.hid (fun u => told3_any u)
  go_enter Try.func4, Try.ntmps4
  go_wp2_with fail
  refine (HT.out _).mono ?_
  rintro e w1 ⟨rfl, B1⟩
  have C1 : Hid (Below w.heap.size w w1) := (((Below.refl _ w).alloc (Nat.le_refl _) _).alloc (by simp) _).trans (B1.mono (by simp; omega))
  clear B1
  go_wp2
  go_returns
  exact ⟨rfl, C1.out⟩

set_option maxHeartbeats 1000000 in
set_option maxRecDepth 100000 in
theorem many1 (a1 a2 a3 a4 a5 : Int) (a6 : ByteArray) (r1 r2 : Int) (r3 : ByteArray) (ra : Option Addr) (rn rc : Nat) (p : Int) (w : World) (g0 : rn ≤ 50) (g1 : 300 < a6.size) :
    Calls Try.prog 4 #[.agg #[.int .i64 a1, .int .i64 a2, .int .i64 a3, .int .i64 a4, .int .i64 a5, .string a6], .agg #[.int .i64 r1, .int .i64 r2, .string r3, .slice ra rn rc], .int .i64 p] w fun e w' => e = .returned (.bool true) ∧ Below w.heap.size w w' := by
  have HT := Lib.hid (fun u => told3_any u)
  go_enter Try.func4, Try.ntmps4
  go_wp2_with fail
  refine (HT.out _).mono ?_
  rintro e w1 ⟨rfl, B1⟩
  have C1 : Hid (Below w.heap.size w w1) := (((Below.refl _ w).alloc (Nat.le_refl _) _).alloc (by simp) _).trans (B1.mono (by simp; omega))
  clear B1
  go_wp2
  go_returns
  exact ⟨rfl, C1.out⟩

theorem walk (a1 a2 a3 a4 a5 : Int) (a6 : ByteArray) (r1 r2 : Int) (r3 : ByteArray) (rv : Value) (rl : List Int) (p : Int) (w : World)
    (_ : a6.size ≤ maxLen) (gr : r3.size ≤ 140737488351232) (hr : Ints w w.heap.size rv rl) (_ : (Lit.int .i64 p).wf = true) :
    Calls Try.prog 4 #[.agg #[.int .i64 a1, .int .i64 a2, .int .i64 a3, .int .i64 a4, .int .i64 a5, .string a6], .agg #[.int .i64 r1, .int .i64 r2, .string r3, rv], .int .i64 p] w fun e w' => e = .returned (.bool true) ∧ Below w.heap.size w w' := by
  have hr' := hr
  obtain ⟨ra, rc, rfl, _⟩ := hr'
  by_cases g0 : rl.length ≤ 50
  case neg => exact many0 a1 a2 a3 a4 a5 a6 r1 r2 r3 ra rl.length rc p w (by omega)
  by_cases g1 : a6.size ≤ 300
  case neg => exact many1 a1 a2 a3 a4 a5 a6 r1 r2 r3 ra rl.length rc p w g0 (by omega)
  have hu : 0 ≤ IntKind.u64.wrap p := by simp [IntKind.wrap, IntKind.bits, IntKind.signed]; omega
  obtain ⟨k, hk⟩ : ∃ k, (IntKind.u64.wrap p).tmod 6 = k := ⟨_, rfl⟩
  have k0 : 0 ≤ k := by rw [← hk, Int.tmod_eq_emod_of_nonneg hu]; omega
  have k6 : k < 6 := by rw [← hk, Int.tmod_eq_emod_of_nonneg hu]; omega
  rcases (show k = 0 ∨ k = 1 ∨ k = 2 ∨ k = 3 ∨ k = 4 ∨ k = 5 by omega) with rfl | rfl | rfl | rfl | rfl | rfl
  · exact p0 a1 a2 a3 a4 a5 a6 r1 r2 r3 ra rl.length rc p rl w hr g0 g0 g1 gr hk
  · exact p1 a1 a2 a3 a4 a5 a6 r1 r2 r3 ra rl.length rc p rl w hr g0 g0 g1 gr hk
  · exact p2 a1 a2 a3 a4 a5 a6 r1 r2 r3 ra rl.length rc p rl w hr g0 g0 g1 gr hk
  · exact p3 a1 a2 a3 a4 a5 a6 r1 r2 r3 ra rc p rl w hr g0 g1 hk
  · exact p4 a1 a2 a3 a4 a5 a6 r1 r2 r3 ra rl.length rc p rl w hr g0 g0 g1 gr hk
  · exact p5 a1 a2 a3 a4 a5 a6 r1 r2 r3 ra rl.length rc p rl w hr g0 g0 g1 gr hk

set_option maxRecDepth 100000 in
theorem lifted (os : Os) (started : os.Started) (H : Type) (enc : TypeId × Value → H) :
    ReturnsInHanded {} Try.checked os 4 .any (Rows.reqPartsSpec.pre6 enc Try.prog Try.f4 Rows.reqPartsRow.domain false) (Rows.reqPartsSpec.post enc Try.prog Try.f4 false true false false) := by
  refine returnsInHanded_of_change_sized (C := Try.checked) own started (by kernel_rfl) Try.func4
    (ChangeSpec.witness6 (enc := enc) (C := Try.checked) false ⟨#[], #[.agg #[.int .i64 0, .int .i64 0, .int .i64 0, .int .i64 0, .int .i64 0, .string ByteArray.empty], .agg #[.int .i64 0, .int .i64 0, .string ByteArray.empty, .slice none 0 0], .int .i64 0], []⟩ 8 (by kernel_rfl) (by kernel_rfl) (by kernel_rfl) (by kernel_rfl)) ?_
  intro W base args ds gs before hval0 hW hcnd hsz0 _
  have hval : ∀ (j : Nat) t v, Try.f4.params[j]? = some t → args[j]? = some v → Value.okWide Try.prog W .any base t v := hval0
  have hW' := hW
  obtain ⟨p, q, hA0, hV, rfl, hfz, hnd⟩ := hW
  have hA : DataW.TrodAll enc Try.prog W 0 (fun _ => true) true Try.f4.params.toList args.toList ds p := hA0
  rw [Try.params4] at hA hval
  have hsz : (DataW.weightsEach Try.prog (Try.f4.params.toList ++ Rows.reqPartsSpec.plain.varTypes Try.prog) (ds ++ gs)).all (· ≤ reachBytes) = true := hsz0
  clear hsz0
  rw [Try.params4] at hsz
  obtain ⟨v0, vs0, d0, ds0, p0, q0, hargs, rfl, rfl, h0, r0⟩ := trodAll_cons hA
  obtain ⟨v1, vs1, d1, ds1, p1, q1, rfl, rfl, rfl, h1, r1⟩ := trodAll_cons r0
  obtain ⟨v2, vs2, d2, ds2, p2, q2, rfl, rfl, rfl, h2, r2⟩ := trodAll_cons r1
  obtain ⟨rfl, rfl, rfl⟩ := trodAll_nil r2
  obtain rfl : args = #[v0, v1, v2] := by cases args; simp_all
  obtain ⟨rfl, rfl⟩ := trodVars_none hV
  have k0 := h0
  have lt0 : ∀ x ∈ p0, x.block < W.heap.size := by obtain ⟨m, hm⟩ := k0; exact DataW.trod_lt m _ _ _ hm
  obtain ⟨⟨xa0, xb0, xc0, xd0, xe0, xf0⟩, w0, rfl⟩ := req_open (hval 0 23 v0 rfl rfl) h0
  have k1 := h1
  have lt1 : ∀ x ∈ p1, x.block < W.heap.size := by obtain ⟨m, hm⟩ := k1; exact DataW.trod_lt m _ _ _ hm
  obtain ⟨xa1, xb1, xc1, xd1, xe1, xf1, l1, rfl, w1, z1⟩ := reply_open (hval 1 26 v1 rfl rfl) h1
  have s1 : xc1.size ≤ 140737488351232 := of_decide_eq_true (List.all_eq_true.1 hsz _ (DataW.weights_mem_each (j := 1) (t := 26) (d := d1) rfl rfl _ z1))
  obtain ⟨a2, rfl, rfl, rfl, w2⟩ := open_int Try.underlying3 (hval 2 3 v2 rfl rfl) h2
  clear hA0 hval0
  refine (walk xa0 xb0 xc0 xd0 xe0 xf0 xa1 xb1 xc1 (.slice xd1 xe1 xf1) l1 a2 W w0 s1 w1 w2).mono fun e W' ⟨he, bel⟩ => ?_
  subst he
  exact ⟨_, rfl, _, _, _, [], _, [], hW', trodAll_mk1 (shut_bool Try.underlying4 _), (trodAll_cons_mk (Below.trod laidOut (by kernel_rfl) (of_decide_eq_true (by kernel_rfl)) k0 bel lt0) (trodAll_cons_mk (Below.trod laidOut (by kernel_rfl) (of_decide_eq_true (by kernel_rfl)) k1 bel lt1) (trodAll_cons_mk (shut_int Try.underlying3 w2) trodAll_mk0))), rfl, bel.frame _, fun h => by cases h⟩

theorem over : Rows.reqPartsRow.holds Try.pinned (OpenSpec.ofChange Rows.reqPartsSpec) :=
  OpenClaim.holds_of_wide 4 Try.f4 rfl rfl rfl rfl rfl rfl rfl ⟨rfl, rfl, rfl, rfl, rfl⟩ rfl rfl rfl rfl rfl (by kernel_rfl) Try.func4 (by kernel_rfl)
    (of_decide_eq_true (by kernel_rfl)) (by unfold Func.isWrapper; first | (rw [if_pos (by decide +kernel)]; kernel_rfl) | (rw [if_neg (by decide +kernel)]; exact ⟨rfl, rfl⟩))
    (fun os started H enc _ => lifted os started H enc)
end Go.Proofs.Ytjgeopdcniameaa.ReqParts

namespace Go.Proofs.Ytjgeopdcniameaa
theorem reqParts_holds : Rows.ReqPartsSaid := ReqParts.over
#print axioms reqParts_holds
end Go.Proofs.Ytjgeopdcniameaa
