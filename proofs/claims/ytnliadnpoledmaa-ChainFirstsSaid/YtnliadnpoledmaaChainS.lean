/-
  THE REFERENCE's Without. Of chains of at most a hundred nodes, without at most a hundred.
-/
import Derived.Test.YtnliadnpoledmaaChainR
namespace Go.Proofs.Ytnliadnpoledmaa
open Go.RowKit

/-- An append onto a row of one's own, as one step of a region that draws. -/
theorem stepApp {P : Program} {ops : Array Oper} {o : Oper} {a : Act} {w : World} {K : Act → World → Prop} {Q : Exit → Act → World → Prop} {E : Prop} (hgd : o.guard = none) (s x : Operand) (t tx : TypeId)
    (ho : o.op = .call { callee := .builtin .append, args := #[s, x], argTypes := #[t, tx] })
    (base : Nat) (e : TypeId) (i : TypeInfo) (z : Value) (size bytes : Nat) (ht : P.underlying t = some (.slice e)) (hi : P.info? e = some i) (hz : i.zero = some z)
    (hsize : i.size = size) (hby : i.bytes = bytes) (hzs : z.cells.size = size)
    (v : Value) (n : Nat) (xs : List Value) (hs : a.eval s = v) (hown : w.ownsRow base e size v n xs)
    (xv : Value) (m : Nat) (news : List Value) (hx : a.eval x = xv) (hsrc : Src P size tx xv m news w)
    (h63 : n + m ≤ maxLen) (hbytes : (n + m) * bytes ≤ 140737488355328) (hbase : base ≤ w.heap.size)
    (hK : ∀ v' w', w'.ownsRow base e size v' (n + m) (xs ++ news) → w.grownBy w' v.ownBlock → K (a.put o.dst v') w') :
    if Region.wanted o (yielded ops a.tmps) = true then Oper.wp P o a w K Q else E := by
  have hw : Region.wanted o (yielded ops a.tmps) = true := by simp [Region.wanted, hgd]
  rw [if_pos hw]
  obtain ⟨v', w', hrun, h1, h2⟩ := run_append_own_src (P := P) base t tx o.type e i z size bytes ht hi hz hsize hby hzs v n xs hown xv m news hsrc h63 hbytes hbase
  unfold Oper.wp
  simp [execOp, ho, resolve, invoke, builtin, hs, hx, hrun, Result.andThen]
  exact hK _ _ h1 h2
/-- A drawn world's row of one new number. -/
theorem csrc1d (w : World) (x : Int) : Src Try.prog 1 22 (.slice (some ⟨w.heap.size, 0, none⟩) 1 1) 1 (intCells [x]) (w.alloc (.cells #[.int .i64 x] 3)).drew :=
  csrc (B := w.heap.size + 1) ((ints_lit w [x] (show 1 ≤ maxLen by decide)).keep ((Below.refl _ _).drew))

/-- What the reference's Without keeps between two rounds. -/
structure WI (w0 w : World) (ep : Int) (vA : Value) (L : List Int) (a : Option Addr) (c : Nat) : Prop where
  box : ChT w w0.heap.size ep vA
  res : ChT w (w0.heap.size + 1) 0 (.slice none 0 0)
  d : ChT w (w0.heap.size + 2) (ep + 1) (.slice a L.length c)
  row : w.ownsRow (w0.heap.size + 3) 3 1 (.slice a L.length c) L.length (intCells L)
  bel : Below w0.heap.size w0 w
theorem WI.size {w0 w : World} {ep : Int} {vA : Value} {L : List Int} {a : Option Addr} {c : Nat} (h : WI w0 w ep vA L a c) : w0.heap.size + 3 ≤ w.heap.size := by have := h.d.lt; omega
theorem WI.on {w0 w w' : World} {ep : Int} {vA : Value} {L : List Int} {a : Option Addr} {c : Nat} (h : WI w0 w ep vA L a c) (hb : Below w.heap.size w w') : WI w0 w' ep vA L a c :=
  ⟨h.box.keep hb h.box.lt, h.res.keep hb h.res.lt, h.d.keep hb h.d.lt, rowOn h.row hb, h.bel.trans (hb.mono h.bel.size)⟩
/-- One more is appended, and the slice stored. -/
theorem WI.app {w0 w u w2 : World} {ep x : Int} {vA : Value} {L : List Int} {a a2 : Option Addr} {c c2 : Nat} (h : WI w0 w ep vA L a c) (hu : Below w.heap.size w u) (O : w2.ownsRow (w0.heap.size + 3) 3 1 (.slice a2 (L.length + 1) c2) (L.length + 1) (intCells L ++ intCells [x])) (G : u.grownBy w2 (Value.slice a L.length c).ownBlock) :
    Below (w0.heap.size + 3) w w2 ∧ ChT w2 (w0.heap.size + 2) (ep + 1) (.slice a L.length c) ∧ WI w0 (w2.setCell ⟨w0.heap.size + 2, 1, none⟩ (.slice a2 (L.length + 1) c2)) ep vA (L ++ [x]) a2 c2 := by
  have hs := h.size
  have hsu := hu.size
  have hown : ∀ y, Value.ownBlock (.slice a L.length c) = some y → w0.heap.size + 3 ≤ y := fun y hy => (h.row.lt y hy).1
  have hb : Below (w0.heap.size + 3) w w2 := (hu.mono hs).grown G (by omega) (fun y hy => hown y hy)
  have hd : ChT w2 (w0.heap.size + 2) (ep + 1) (.slice a L.length c) := (hb.block _ (by omega)).trans h.d
  have o1 := Only.set (w0.heap.size + 2) 1 w2 (.slice a2 (L.length + 1) c2)
  have hs2 := hb.size
  refine ⟨hb, hd, (o1.block _ (by omega) (by omega)).trans ((hb.block _ (by omega)).trans h.box), (o1.block _ (by omega) (by omega)).trans ((hb.block _ (by omega)).trans h.res), ?_, ?_, o1.below (h.bel.trans (hb.mono (by omega))) (fun x hx => by omega) (by omega)⟩
  · show _ = _
    rw [heap_setCell_same _ _ _ _ _ _ hd, List.length_append]
    rfl
  · rw [List.length_append, ← cells_app]
    exact own_only O o1 (by omega)

set_option maxRecDepth 100000 in
set_option maxHeartbeats 2000000 in
theorem rhwithout_top (ep : Int) (va vl : Value) (h : 1073741824 ≤ ep) (w : World) :
    Calls Try.prog 25 #[.agg #[.int .i64 ep, va], vl] w fun e w' => e = .returned (.tuple #[.agg #[.int .i64 0, .slice none 0 0], .int .i64 1]) ∧ Below w.heap.size w w' := by
  obtain ⟨u0, hu0⟩ : ∃ u0, u0 = ((w.alloc (.cells #[.int .i64 ep, va] 25)).alloc (.cells #[.int .i64 0, .slice none 0 0] 25)).alloc (.cells #[.int .i64 ep, .slice none 0 0] 25) := ⟨_, rfl⟩
  have hb0 : Below w.heap.size w u0 := by rw [hu0]; exact (((Below.refl _ w).alloc (Nat.le_refl _) _).alloc (by simp) _).alloc (by simp; omega) _
  have r0 : ChT u0 (w.heap.size + 1) 0 (.slice none 0 0) := by
    rw [hu0]
    have := ChT.fresh (w.alloc (.cells #[.int .i64 ep, va] 25)) 0 (.slice none 0 0)
    rw [World.size_alloc] at this
    exact this.keep ((Below.refl _ _).alloc (Nat.le_refl _) _) (by simp)
  obtain ⟨k1, k2⟩ := r0.stored (ep' := 0) (v' := .slice none 0 0)
  have K1 := Lib.hid k1
  have K2 : Hid (Below w.heap.size w (chW u0 (w.heap.size + 1) 0 (.slice none 0 0))) := k2.below hb0 (fun x hx => by omega) hb0.size
  have HU := Lib.hid hu0
  have hn : ¬ (ep < 1073741824) := by omega
  clear k1 k2 hb0 r0 hu0 h
  go_enter Try.func25, Try.ntmps25
  go_wp2_with fail
  obtain ⟨e0, e1, _, _⟩ := K1.out.cells
  have k2 := K2.out
  rw [HU.out] at e0 e1 k2
  unfold chW at e0 e1 k2
  refine bodyPost_ret (v := .tuple #[.agg #[.int .i64 0, .slice none 0 0], .int .i64 1]) (by simp [results, Try.results25, go_sem]) rfl ⟨rfl, by first | exact k2 | go_grown⟩

set_option maxRecDepth 100000 in
set_option maxHeartbeats 8000000 in
theorem rhwithout_in (ep : Int) (va : Value) (A : List Int) (vl : Value) (l : List Int) (B : Nat) (w : World) (hIa : Ints w B va A) (hIl : Ints w B vl l) (hB : B ≤ w.heap.size) (hA : A.length ≤ 100) (hl : l.length ≤ 100) (he : wrap64 (ep + 1) = ep + 1) (hep : ep < 1073741824) {ep' : Int} {er : Int}
    (hE : (ChainV.may ⟨ep + 1, leftL A l⟩ ∧ ep' = ep + 1 ∧ er = 0) ∨ (¬ ChainV.may ⟨ep + 1, leftL A l⟩ ∧ ep' = 0 ∧ er = 1)) :
    Calls Try.prog 25 #[.agg #[.int .i64 ep, va], vl] w fun e w' => ∃ a n c, e = .returned (.tuple #[.agg #[.int .i64 ep', .slice a n c], .int .i64 er]) ∧ (er = 0 → Ints w' w'.heap.size (.slice a n c) (leftL A l)) ∧ (er = 1 → a = none ∧ n = 0 ∧ c = 0) ∧ Below w.heap.size w w' := by
  obtain ⟨i0, hi, hz0, hz1, hz2⟩ := info_parts info_int12
  obtain ⟨aa, ca, rfl⟩ : ∃ a c, va = .slice a A.length c := by obtain ⟨a, c, h, _⟩ := hIa; exact ⟨a, c, h⟩
  obtain ⟨al, cl, rfl⟩ : ∃ a c, vl = .slice a l.length c := by obtain ⟨a, c, h, _⟩ := hIl; exact ⟨a, c, h⟩
  obtain ⟨m, hm⟩ : ∃ m, m = A.length := ⟨_, rfl⟩
  obtain ⟨q, hq⟩ : ∃ q, q = l.length := ⟨_, rfl⟩
  rw [← hm] at hIa hA ⊢
  rw [← hq] at hIl hl ⊢
  have HA := Lib.hid hIa
  have HL := Lib.hid hIl
  have HM := Lib.hid hm
  have HQ := Lib.hid hq
  have HE := Lib.hid hE
  have HI0 : Hid (WI w (((w.alloc (.cells #[.int .i64 ep, .slice aa m ca] 25)).alloc (.cells #[.int .i64 0, .slice none 0 0] 25)).alloc (.cells #[.int .i64 (ep + 1), .slice none 0 0] 25)) ep (.slice aa m ca) [] none 0) := by
    refine ⟨?_, ?_, ?_, World.ownsRow_nil _ _ _ _, (((Below.refl _ w).alloc (Nat.le_refl _) _).alloc (by simp) _).alloc (by simp; omega) _⟩
    · exact (ChT.fresh w _ _).keep (((Below.refl _ _).alloc (Nat.le_refl _) _).alloc (by simp) _) (by simp)
    · have := ChT.fresh (w.alloc (.cells #[.int .i64 ep, .slice aa m ca] 25)) 0 (.slice none 0 0)
      rw [World.size_alloc] at this
      exact this.keep ((Below.refl _ _).alloc (Nat.le_refl _) _) (by simp)
    · have := ChT.fresh ((w.alloc (.cells #[.int .i64 ep, .slice aa m ca] 25)).alloc (.cells #[.int .i64 0, .slice none 0 0] 25)) (ep + 1) (.slice none 0 0)
      rwa [World.size_alloc, World.size_alloc] at this
  clear hIa hIl hm hq hE
  go_enter Try.func25, Try.ntmps25
  go_wp2_with fail
  go_loopw [7] (fun s7 wr => ∃ (i : Nat) (a : Option Addr) (c : Nat), i ≤ m ∧ s7 = .int .i64 i ∧ Hid (WI w wr ep (.slice aa m ca) (leftL (A.take i) l) a c)) (fun s7 _ => m - (intOf s7).toNat)
  case atStart => exact ⟨0, none, 0, Nat.zero_le _, rfl, by show WI w _ ep _ (leftL (A.take 0) l) none 0; rw [List.take_zero, leftL_nil]; exact HI0.out⟩
  case round =>
    obtain ⟨i, a, c, hi', rfl, HW⟩ := hrel
    obtain ⟨b0, b1, _, _⟩ := HW.out.box.cells
    by_cases hlt : i < m
    · obtain ⟨b, off, rfl, hb, hc0⟩ := (ints_cell HA.out).2 i hlt
      have hc := (HW.out.bel.cell (p := ⟨b, off + i, none⟩) (show b < w.heap.size by omega)).trans hc0
      obtain ⟨x, hx⟩ : ∃ x, x = A.getD i 0 := ⟨_, rfl⟩
      rw [← hx] at hc
      have HX := Lib.hid hx
      have HC := Lib.hid hc
      have HC0 := Lib.hid hc0
      clear hx hc0
      go_wp2_with fail
      obtain ⟨wo, hwo⟩ : ∃ wo : World, wo = wr := ⟨_, rfl⟩
      subst hwo
      go_loopw [8, 9] (fun s8 s9 wq => ∃ k : Nat, s8 = .bool (decide (x ∈ l.take k)) ∧ s9 = .int .i64 k ∧ k ≤ q ∧ Below wo.heap.size wo wq) (fun _ s9 _ => q - (intOf s9).toNat)
      case atStart => exact ⟨0, by simp, rfl, Nat.zero_le _, Below.refl _ _⟩
      case round =>
        obtain ⟨k, rfl, rfl, hkq, hbq⟩ := hrel
        have HBQ := Lib.hid hbq
        have i0' : (0 : Int) ≤ (i : Int) := by omega
        have i1' : (i : Int) < (m : Int) := by omega
        by_cases hk : k < q
        · obtain ⟨lb, lo, rfl, hlb, hlc⟩ := (ints_cell HL.out).2 k hk
          have hlc' := (HBQ.out.cell (p := ⟨lb, lo + k, none⟩) (show lb < wo.heap.size by have := HW.out.size; omega)).trans ((HW.out.bel.cell (p := ⟨lb, lo + k, none⟩) (show lb < w.heap.size by omega)).trans hlc)
          obtain ⟨y, hy⟩ : ∃ y, y = l.getD k 0 := ⟨_, rfl⟩
          rw [← hy] at hlc'
          have HT : Hid (∀ z : Int, z ∈ l.take (k + 1) ↔ (z ∈ l.take k ∨ z = y)) := fun z => by
            rw [take_snoc l k (by have := HQ.out; omega), ← hy, List.mem_append, List.mem_singleton]
          have c1 := (HBQ.out.cell (p := ⟨b, off + i, none⟩) (show b < wo.heap.size by have := HW.out.size; omega)).trans HC.out
          have W1 := HW.out.on HBQ.out
          obtain ⟨e0, e1, _, _⟩ := W1.box.cells
          have k0' : (0 : Int) ≤ (k : Int) := by omega
          have k1' : (k : Int) < (q : Int) := by omega
          clear hy hlc W1 b0 b1 hc hbq
          by_cases hin : x ∈ l.take k
          · have hd : decide (x ∈ l.take k) = true := decide_eq_true hin
            have hd2 : Hid (Value.bool true = .bool (decide (x ∈ l.take (k + 1)))) := by show _ = _; rw [decide_eq_true ((HT.out x).2 (.inl hin))]
            rw [hd]
            clear hin hd
            go_wp2
            go_quiet (fail)
            go_wp2
            go_roundw
            case rel => exact ⟨k + 1, hd2.out, by go_num, by omega, below_drewN HBQ.out _⟩
            case measure => simp [intOf]; omega
          · have hd : decide (x ∈ l.take k) = false := decide_eq_false hin
            rw [hd]
            by_cases hyx : y = x
            · have hd2 : Hid (Value.bool true = .bool (decide (x ∈ l.take (k + 1)))) := by show _ = _; rw [decide_eq_true ((HT.out x).2 (.inr hyx.symm))]
              have hyb : (y == x) = true := by simp [hyx]
              clear hin hd hyx
              go_wp2
              go_quiet (fail)
              go_wp2
              go_roundw
              case rel => exact ⟨k + 1, by first | exact hd2.out | (rw [hyb]; exact hd2.out), by go_num, by omega, below_drewN HBQ.out _⟩
              case measure => simp [intOf]; omega
            · have hd2 : Hid (Value.bool false = .bool (decide (x ∈ l.take (k + 1)))) := by
                show _ = _
                rw [decide_eq_false fun h => ?_]
                rcases (HT.out x).1 h with h | h
                · exact hin h
                · exact hyx h.symm
              have hyb : (y == x) = false := beq_eq_false_iff_ne.2 hyx
              clear hin hd hyx
              go_wp2
              go_quiet (fail)
              go_wp2
              go_roundw
              case rel => exact ⟨k + 1, by first | exact hd2.out | (rw [hyb]; exact hd2.out), by go_num, by omega, below_drewN HBQ.out _⟩
              case measure => simp [intOf]; omega
        · obtain rfl : k = q := by omega
          have W1 := Lib.hid (HW.out.on HBQ.out)
          have hsL : Hid (l.take k = l) := List.take_of_length_le (by have := HQ.out; omega)
          have c1 := (HBQ.out.cell (p := ⟨b, off + i, none⟩) (show b < wo.heap.size by have := HW.out.size; omega)).trans HC.out
          have HT : Hid (A.take (i + 1) = A.take i ++ [x]) := by show _ = _; rw [HX.out]; exact take_snoc A i (by have := HM.out; omega)
          have hln := leftL_len (A.take i) l
          rw [List.length_take] at hln
          rw [hsL.out]
          by_cases hin : x ∈ l
          · have HN : Hid (leftL (A.take (i + 1)) l = leftL (A.take i) l) := by show _ = _; rw [HT.out]; exact leftL_snoc_in hin
            rw [decide_eq_true hin]
            clear hin hbq b0 b1 hc
            go_wp2_with fail
            go_roundw
            case rel => exact ⟨i + 1, a, c, by omega, by go_num, by rw [HN.out]; exact W1.out⟩
            case measure => simp [intOf]; omega
          · have HN : Hid (leftL (A.take (i + 1)) l = leftL (A.take i) l ++ [x]) := by show _ = _; rw [HT.out]; exact leftL_snoc_out hin
            rw [decide_eq_false hin]
            clear hin hbq b0 b1 hc
            go_wp2_with fail
            have hwb := W1.out.size
            have HS : Hid (∀ u, Below (w.heap.size + 3) wr u → ((fun u => u.cell? ⟨w.heap.size, 1, none⟩ = some (.slice (some ⟨b, off, none⟩) m ca) ∧ u.cell? ⟨b, off + i, none⟩ = some (.int .i64 x))) u) := fun u hu => ⟨(hu.cell (p := ⟨w.heap.size, 1, none⟩) (show w.heap.size < w.heap.size + 3 by omega)).trans W1.out.box.cells.2.1, (hu.cell (p := ⟨b, off + i, none⟩) (show b < w.heap.size + 3 by omega)).trans ((W1.out.bel.cell (p := ⟨b, off + i, none⟩) (show b < w.heap.size by omega)).trans (by rw [HC0.out, HX.out]))⟩
            have HS2 : Hid (∀ u L2 a2 c2, WI w u ep (.slice (some ⟨b, off, none⟩) m ca) L2 a2 c2 → ((fun u => u.cell? ⟨w.heap.size, 1, none⟩ = some (.slice (some ⟨b, off, none⟩) m ca) ∧ u.cell? ⟨b, off + i, none⟩ = some (.int .i64 x))) u) := fun u L2 a2 c2 hu => ⟨hu.box.cells.2.1, (hu.bel.cell (p := ⟨b, off + i, none⟩) (show b < w.heap.size by omega)).trans (by rw [HC0.out, HX.out])⟩
            have HBU : Hid (Below wr.heap.size wr (wr.alloc (.cells #[.int .i64 x] 3)).drew) := ((Below.refl _ wr).alloc (Nat.le_refl _) _).drew
            have HROW := Lib.hid (rowOn W1.out.row HBU.out)
            obtain ⟨q0, q1, _, _⟩ := W1.out.d.cells
            obtain ⟨q2, q3, _, _⟩ := (W1.out.d.keep HBU.out W1.out.d.lt).cells
            have P0 : ((fun u => u.cell? ⟨w.heap.size, 1, none⟩ = some (.slice (some ⟨b, off, none⟩) m ca) ∧ u.cell? ⟨b, off + i, none⟩ = some (.int .i64 x))) wr.drew := HS.out _ (show Below (w.heap.size + 3) wr wr.drew from (Below.refl _ _).drew)
            refine wp_region_held_drew (S := (fun u => u.cell? ⟨w.heap.size, 1, none⟩ = some (.slice (some ⟨b, off, none⟩) m ca) ∧ u.cell? ⟨b, off + i, none⟩ = some (.int .i64 x))) (by kernel_rfl) P0 (fun hHeld => ?_)
            first
              | (refine held_take 0 49 (v := ?_) rfl rfl (by kernel_rfl) (by kernel_rfl) (by kernel_rfl) (fun _ _ _ h => h) (by assumption) (by rfl) ?_ ?_; rotate_left; (focus (intro w hSw; obtain ⟨hS0, hS1⟩ := hSw; go_simp <;> with_reducible rfl)))
              | refine held_pass 0 49 rfl rfl (by kernel_rfl) (by kernel_rfl) (by kernel_rfl) (fun _ _ _ h => h) (by assumption) (by rfl) ?_
            simp only [Act.put, List.setIfInBounds_toArray, List.set_cons_zero, List.set_cons_succ]
            first
              | (refine held_take 2 51 (v := ?_) rfl rfl (by kernel_rfl) (by kernel_rfl) (by kernel_rfl) (fun _ _ _ h => h) (by assumption) (by rfl) ?_ ?_; rotate_left; (focus (intro w hSw; obtain ⟨hS0, hS1⟩ := hSw; go_simp <;> with_reducible rfl)))
              | refine held_pass 2 51 rfl rfl (by kernel_rfl) (by kernel_rfl) (by kernel_rfl) (fun _ _ _ h => h) (by assumption) (by rfl) ?_
            simp only [Act.put, List.setIfInBounds_toArray, List.set_cons_zero, List.set_cons_succ]
            first
              | (refine held_take 3 52 (v := ?_) rfl rfl (by kernel_rfl) (by kernel_rfl) (by kernel_rfl) (fun _ _ _ h => h) (by assumption) (by rfl) ?_ ?_; rotate_left; (focus (intro w hSw; obtain ⟨hS0, hS1⟩ := hSw; go_simp <;> with_reducible rfl)))
              | refine held_pass 3 52 rfl rfl (by kernel_rfl) (by kernel_rfl) (by kernel_rfl) (fun _ _ _ h => h) (by assumption) (by rfl) ?_
            simp only [Act.put, List.setIfInBounds_toArray, List.set_cons_zero, List.set_cons_succ]
            first
              | (refine held_take 4 53 (v := ?_) rfl rfl (by kernel_rfl) (by kernel_rfl) (by kernel_rfl) (fun _ _ _ h => h) (by assumption) (by rfl) ?_ ?_; rotate_left; (focus (intro w hSw; obtain ⟨hS0, hS1⟩ := hSw; go_simp <;> with_reducible rfl)))
              | refine held_pass 4 53 rfl rfl (by kernel_rfl) (by kernel_rfl) (by kernel_rfl) (fun _ _ _ h => h) (by assumption) (by rfl) ?_
            simp only [Act.put, List.setIfInBounds_toArray, List.set_cons_zero, List.set_cons_succ]
            first
              | (refine held_take 5 54 (v := ?_) rfl rfl (by kernel_rfl) (by kernel_rfl) (by kernel_rfl) (fun _ _ _ h => h) (by assumption) (by rfl) ?_ ?_; rotate_left; (focus (intro w hSw; obtain ⟨hS0, hS1⟩ := hSw; go_simp <;> with_reducible rfl)))
              | refine held_pass 5 54 rfl rfl (by kernel_rfl) (by kernel_rfl) (by kernel_rfl) (fun _ _ _ h => h) (by assumption) (by rfl) ?_
            simp only [Act.put, List.setIfInBounds_toArray, List.set_cons_zero, List.set_cons_succ]
            first
              | (refine held_take 6 55 (v := ?_) rfl rfl (by kernel_rfl) (by kernel_rfl) (by kernel_rfl) (fun _ _ _ h => h) (by assumption) (by rfl) ?_ ?_; rotate_left; (focus (intro w hSw; obtain ⟨hS0, hS1⟩ := hSw; go_simp <;> with_reducible rfl)))
              | refine held_pass 6 55 rfl rfl (by kernel_rfl) (by kernel_rfl) (by kernel_rfl) (fun _ _ _ h => h) (by assumption) (by rfl) ?_
            simp only [Act.put, List.setIfInBounds_toArray, List.set_cons_zero, List.set_cons_succ]
            refine wpAnyH_ready (rs := [1, 7]) (by kernel_rfl) (by simp) (AllReadyH.cons rfl (fun K hK => ?_) (AllReadyH.cons rfl (fun K hK => ?_) AllReadyH.nil))
            · try simp only [Go.wp_at_succ, Go.wp_at_zero]
              go_simp
              refine hK.out _ _ (HS.out _ ?_) (fun hHeld => ?_)
              · go_grown
              clear hK K
              try simp only [Act.put, List.setIfInBounds_toArray, List.set_cons_zero, List.set_cons_succ]
              refine wpAnyH_ready (rs := [7]) (by kernel_rfl) (by simp) (AllReadyH.cons rfl (fun K hK => ?_) AllReadyH.nil)
              try simp only [Go.wp_at_succ, Go.wp_at_zero]
              go_simp
              refine hK.out _ _ (HS.out _ ?_) (fun hHeld => ?_)
              · go_grown
              clear hK K
              try simp only [Act.put, List.setIfInBounds_toArray, List.set_cons_zero, List.set_cons_succ]
              refine wpAnyH_ready (rs := [8]) (by kernel_rfl) (by simp) (AllReadyH.cons rfl (fun K hK => ?_) AllReadyH.nil)
              refine stepApp rfl (.tmp 50) (.tmp 56) 22 22 rfl (w.heap.size + 3) 3 i0 (.int .i64 0) 1 8 Try.underlying22 hi hz0 hz1 hz2 rfl _ _ _ rfl HROW.out _ 1 (intCells [x]) rfl (csrc1d wr x) ?c3 ?c4 ?c5 ?_
              case c3 => unfold maxLen; omega
              case c4 => omega
              case c5 => have := W1.out.size; simp; omega
              intro v2 w2 O2 G2
              obtain ⟨a2, c2, rfl⟩ := own_shape O2
              obtain ⟨hb2, hd2, hW2⟩ := W1.out.app HBU.out O2 G2
              obtain ⟨y0, y1, z0, z1⟩ := hd2.cells
              have HB2 := Lib.hid hb2
              have HW2 := Lib.hid hW2
              clear hb2 hd2 hW2 O2 G2
              refine hK.out _ _ (HS.out _ HB2.out) (fun hHeld => ?_)
              clear hK K
              try simp only [Act.put, List.setIfInBounds_toArray]
              first
                | (refine held_take 9 58 (v := ?_) rfl rfl (by kernel_rfl) (by kernel_rfl) (by kernel_rfl) (fun _ _ _ h => h) (by assumption) (by rfl) ?_ ?_; rotate_left; (focus (intro w hSw; obtain ⟨hS0, hS1⟩ := hSw; go_simp <;> with_reducible rfl)))
                | refine held_pass 9 58 rfl rfl (by kernel_rfl) (by kernel_rfl) (by kernel_rfl) (fun _ _ _ h => h) (by assumption) (by rfl) ?_
              simp only [Act.put]
              refine wpAnyH_ready (rs := [10]) (by kernel_rfl) (by simp) (AllReadyH.cons rfl (fun K hK => ?_) AllReadyH.nil)
              try simp only [Go.wp_at_succ, Go.wp_at_zero]
              go_simp
              refine hK.out _ _ (HS2.out _ _ _ _ HW2.out) (fun hHeld => ?_)
              clear hK K
              try simp only [Act.put]
              refine wpAnyH_done (by kernel_rfl) ?_ _
              go_wp2
              go_roundw
              case rel => first | exact ⟨i + 1, a2, c2, by omega, by go_num, by rw [HN.out]; exact HW2.out⟩ | exact ⟨i + 1, by omega, by omega, a2, c2, by rw [HN.out]; exact HW2.out⟩
              case measure => simp [intOf]; omega
            · try simp only [Go.wp_at_succ, Go.wp_at_zero]
              go_simp
              refine hK.out _ _ (HS.out _ ?_) (fun hHeld => ?_)
              · go_grown
              clear hK K
              try simp only [Act.put, List.setIfInBounds_toArray, List.set_cons_zero, List.set_cons_succ]
              refine wpAnyH_ready (rs := [1]) (by kernel_rfl) (by simp) (AllReadyH.cons rfl (fun K hK => ?_) AllReadyH.nil)
              try simp only [Go.wp_at_succ, Go.wp_at_zero]
              go_simp
              refine hK.out _ _ (HS.out _ ?_) (fun hHeld => ?_)
              · go_grown
              clear hK K
              try simp only [Act.put, List.setIfInBounds_toArray, List.set_cons_zero, List.set_cons_succ]
              refine wpAnyH_ready (rs := [8]) (by kernel_rfl) (by simp) (AllReadyH.cons rfl (fun K hK => ?_) AllReadyH.nil)
              refine stepApp rfl (.tmp 50) (.tmp 56) 22 22 rfl (w.heap.size + 3) 3 i0 (.int .i64 0) 1 8 Try.underlying22 hi hz0 hz1 hz2 rfl _ _ _ rfl HROW.out _ 1 (intCells [x]) rfl (csrc1d wr x) ?c3 ?c4 ?c5 ?_
              case c3 => unfold maxLen; omega
              case c4 => omega
              case c5 => have := W1.out.size; simp; omega
              intro v2 w2 O2 G2
              obtain ⟨a2, c2, rfl⟩ := own_shape O2
              obtain ⟨hb2, hd2, hW2⟩ := W1.out.app HBU.out O2 G2
              obtain ⟨y0, y1, z0, z1⟩ := hd2.cells
              have HB2 := Lib.hid hb2
              have HW2 := Lib.hid hW2
              clear hb2 hd2 hW2 O2 G2
              refine hK.out _ _ (HS.out _ HB2.out) (fun hHeld => ?_)
              clear hK K
              try simp only [Act.put, List.setIfInBounds_toArray]
              first
                | (refine held_take 9 58 (v := ?_) rfl rfl (by kernel_rfl) (by kernel_rfl) (by kernel_rfl) (fun _ _ _ h => h) (by assumption) (by rfl) ?_ ?_; rotate_left; (focus (intro w hSw; obtain ⟨hS0, hS1⟩ := hSw; go_simp <;> with_reducible rfl)))
                | refine held_pass 9 58 rfl rfl (by kernel_rfl) (by kernel_rfl) (by kernel_rfl) (fun _ _ _ h => h) (by assumption) (by rfl) ?_
              simp only [Act.put]
              refine wpAnyH_ready (rs := [10]) (by kernel_rfl) (by simp) (AllReadyH.cons rfl (fun K hK => ?_) AllReadyH.nil)
              try simp only [Go.wp_at_succ, Go.wp_at_zero]
              go_simp
              refine hK.out _ _ (HS2.out _ _ _ _ HW2.out) (fun hHeld => ?_)
              clear hK K
              try simp only [Act.put]
              refine wpAnyH_done (by kernel_rfl) ?_ _
              go_wp2
              go_roundw
              case rel => first | exact ⟨i + 1, a2, c2, by omega, by go_num, by rw [HN.out]; exact HW2.out⟩ | exact ⟨i + 1, by omega, by omega, a2, c2, by rw [HN.out]; exact HW2.out⟩
              case measure => simp [intOf]; omega
    · obtain rfl : i = m := by omega
      rw [List.take_of_length_le (by have := HM.out; omega)] at HW
      have HMC : Hid (∀ R, Hid (R = decide (ChainV.may ⟨ep + 1, leftL A l⟩)) → Calls Try.prog 15 #[.agg #[.int .i64 (ep + 1), .slice a (leftL A l).length c]] wr fun e w' => e = .returned (.bool R) ∧ Below wr.heap.size wr w') := fun R hR => refmaychain_r (ep + 1) _ (leftL A l) wr.heap.size wr (ints_own HW.out.row (Nat.le_refl _)) (Nat.le_refl _) R hR
      obtain ⟨d0, d1, _, _⟩ := HW.out.d.cells
      rcases HE.out with ⟨hmay, rfl, rfl⟩ | ⟨hmay, rfl, rfl⟩
      · have HMR := Lib.hid (HMC.out true (decide_eq_true hmay).symm)
        clear HMC hmay
        go_wp2_with fail
        refine HMR.out.mono ?_
        rintro e w1 ⟨rfl, B1⟩
        have hs1 := B1.size
        have W1 := Lib.hid (HW.out.on B1)
        have hws := HW.out.size
        clear B1 d0 d1 b0 b1
        obtain ⟨y0, y1, z0, z1⟩ := W1.out.res.cells
        obtain ⟨d0, d1, _, _⟩ := W1.out.d.cells
        go_wp2
        obtain ⟨k1, k2⟩ := W1.out.res.stored (ep' := ep + 1) (v' := .slice a (leftL A l).length c)
        have hbw := k2.below W1.out.bel (fun x hx => by omega) W1.out.bel.size
        obtain ⟨e0, e1, _, _⟩ := k1.cells
        have hrow := own_only W1.out.row k2 (by omega)
        unfold chW at e0 e1
        refine bodyPost_ret (v := .tuple #[.agg #[.int .i64 (ep + 1), .slice a (leftL A l).length c], .int .i64 0]) (by simp [results, Try.results25, go_sem, e0, e1]) rfl ⟨a, _, c, rfl, ints_own hrow (Nat.le_refl _), hbw⟩
      · have HMR := Lib.hid (HMC.out false (decide_eq_false hmay).symm)
        clear HMC hmay
        go_wp2_with fail
        refine HMR.out.mono ?_
        rintro e w1 ⟨rfl, B1⟩
        have hs1 := B1.size
        have W1 := Lib.hid (HW.out.on B1)
        have hws := HW.out.size
        clear B1 d0 d1 b0 b1
        obtain ⟨y0, y1, z0, z1⟩ := W1.out.res.cells
        obtain ⟨d0, d1, _, _⟩ := W1.out.d.cells
        go_wp2
        obtain ⟨k1, k2⟩ := W1.out.res.stored (ep' := 0) (v' := .slice none 0 0)
        have hbw := k2.below W1.out.bel (fun x hx => by omega) W1.out.bel.size
        obtain ⟨e0, e1, _, _⟩ := k1.cells
        have hrow := own_only W1.out.row k2 (by omega)
        unfold chW at e0 e1
        refine bodyPost_ret (v := .tuple #[.agg #[.int .i64 0, .slice none 0 0], .int .i64 1]) (by simp [results, Try.results25, go_sem, e0, e1]) rfl ⟨none, 0, 0, rfl, ⟨rfl, rfl, rfl⟩, hbw⟩
end Go.Proofs.Ytnliadnpoledmaa
