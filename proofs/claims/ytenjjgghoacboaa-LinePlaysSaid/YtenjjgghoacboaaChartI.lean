/-
  THE REFERENCE's Do, of versions at most a million: what it makes.
-/
import Derived.Test.YtenjjgghoacboaaChartG
import Derived.Test.YtenjjgghoacboaaChartD
import Derived.BigRegion
import Derived.Deep.DeepCutAuto
import Derived.Deep.RegionWith
import Derived.Deep.RegionHeld3
namespace Go.Proofs.Ytenjjgghoacboaa
open Go.RowKit

theorem wr_both (kd : Int) : decide (1 ≤ kd ∧ kd ≤ 3) = wrV kd := by
  rw [Bool.eq_iff_iff]
  simp [wrV]
  omega

/-- append from any source onto a row that the call itself made, as one step of a region that draws. -/
theorem step_append_own {P : Program} {ops : Array Oper} {o : Oper} {a : Act} {w : World} {K : Act → World → Prop} {Q : Exit → Act → World → Prop} {E : Prop} (hgd : o.guard = none) (s x : Operand) (t tx : TypeId)
    (ho : o.op = .call { callee := .builtin .append, args := #[s, x], argTypes := #[t, tx] })
    (base : Nat) (e : TypeId) (i : TypeInfo) (z : Value) (size bytes : Nat) (ht : P.underlying t = some (.slice e)) (hi : P.info? e = some i) (hz : i.zero = some z)
    (hsize : i.size = size) (hby : i.bytes = bytes) (hzs : z.cells.size = size)
    (v : Value) (n : Nat) (xs : List Value) (hs : a.eval s = v) (hown : w.ownsRow base e size v n xs)
    (xv : Value) (m : Nat) (news : List Value) (hx : a.eval x = xv) (hsrc : Src P size tx xv m news w)
    (h63 : n + m ≤ maxLen) (hbytes : (n + m) * bytes ≤ 140737488355328) (hbase : base ≤ w.heap.size)
    (hK : ∀ v' w', w'.ownsRow base e size v' (n + m) (xs ++ news) → w.grownBy w' v.ownBlock → K (a.put o.dst v') w') :
    if Region.wanted o (yielded ops a.tmps) = true then Oper.wp P o a w K Q else E := by
  have hw : Region.wanted o (yielded ops a.tmps) = true := by simp [Region.wanted, hgd]
  rw [if_pos hw]
  obtain ⟨v', w', hrun, h1, h2⟩ := run_append_own_src (P := P) base t tx o.type e i z size bytes ht hi hz hsize hby hzs v n xs hown xv m news hsrc h63 hbytes hbase
  unfold Oper.wp
  simp [execOp, ho, resolve, invoke, builtin, hs, hx, hrun, Result.andThen]
  exact hK _ _ h1 h2

theorem vapp1 {ops : Array Oper} {o : Oper} {a : Act} {w : World} {K : Act → World → Prop} {Q : Exit → Act → World → Prop} {E : Prop} (hgd : o.guard = none) (s x : Operand)
    (ho : o.op = .call { callee := .builtin .append, args := #[s, x], argTypes := #[112, 112] }) (base g : Nat) (xv : Value) (L : List VerV) (n : Nat) (hn : L.length = n) (hs : a.eval s = .slice (some ⟨g, 0, none⟩) 0 0) (hx : a.eval x = xv)
    (B : Nat) (hI : Vers w B xv L) (hn6 : n ≤ 1000000) (hg : w.heap[g]? = some (.cells #[] 121 (0, 0))) (hb : base ≤ g)
    (hK : ∀ a1 c1 w1, w1.ownsRow base 121 2 (.slice a1 n c1) n (verCells L) → Below base w w1 → (∀ k, k < w.heap.size → k ≠ g → w1.heap[k]? = w.heap[k]?) → K (a.put o.dst (.slice a1 n c1)) w1) :
    if Region.wanted o (yielded ops a.tmps) = true then Oper.wp Try.prog o a w K Q else E := by
  subst hn
  obtain ⟨i0, hi, hz0, hz1, hz2⟩ := info_parts info_Version
  have hgl := lt_of_block hg
  have hown : w.ownsRow base 121 2 (.slice (some ⟨g, 0, none⟩) 0 0) 0 [] :=
    ⟨rfl, .inr ⟨g, 0, #[], rfl, hb, hg, Nat.le_refl _, Nat.zero_le _, rfl, rfl⟩⟩
  refine step_append_own hgd s x 112 112 ho base 121 i0 (.agg #[.bool false, .string ⟨#[]⟩]) 2 24 Try.underlying112 hi hz0 hz1 hz2 rfl _ 0 [] hs hown xv L.length (verCells L) hx (src_vers hI) (by unfold maxLen; omega) (by omega) (by omega) ?_
  intro v' w' ho' hg'
  rw [Nat.zero_add] at ho'
  obtain ⟨a1, c1, rfl⟩ := own_shape ho'
  refine hK a1 c1 w' ho' ((Below.refl _ _).grown hg' (by omega) (fun k hk => by simp [Value.ownBlock] at hk; omega)) (fun k hk hne => hg'.block k hk (by simp [Value.ownBlock]; exact hne))

theorem vapp2 {ops : Array Oper} {o : Oper} {a : Act} {w : World} {K : Act → World → Prop} {Q : Exit → Act → World → Prop} {E : Prop} (hgd : o.guard = none) (s x : Operand)
    (ho : o.op = .call { callee := .builtin .append, args := #[s, x], argTypes := #[112, 112] }) (base p : Nat) (v : Value) (L : List VerV) (n : Nat) (g : Bool) (d : ByteArray) (hs : a.eval s = v) (hx : a.eval x = .slice (some ⟨p, 0, none⟩) 1 1)
    (hown : w.ownsRow base 121 2 v n (verCells L)) (hn6 : n ≤ 1000000) (hp : w.heap[p]? = some (.cells #[.bool g, .string d] 121 (0, 0))) (hb : base ≤ w.heap.size)
    (hK : ∀ a1 c1 w1, w1.ownsRow base 121 2 (.slice a1 (n + 1) c1) (n + 1) (verCells (L ++ [⟨g, d⟩])) → Below base w w1 → K (a.put o.dst (.slice a1 (n + 1) c1)) w1) :
    if Region.wanted o (yielded ops a.tmps) = true then Oper.wp Try.prog o a w K Q else E := by
  obtain ⟨i0, hi, hz0, hz1, hz2⟩ := info_parts info_Version
  have hsrc : Src Try.prog 2 112 (.slice (some ⟨p, 0, none⟩) 1 1) 1 (verCells [⟨g, d⟩]) w := by
    refine Src.ofSlice _ Try.underlying112 ⟨p, 0, none⟩ 1 1 (verCells [⟨g, d⟩]) rfl ?_ ?_
    · intro j x hj
      match j, hj with
      | 0, hj => simp [verCells] at hj; subst hj; exact cell_of_row _ _ 0 _ _ _ hp
      | 1, hj => simp [verCells] at hj; subst hj; exact cell_of_row _ _ 1 _ _ _ hp
    · intro x hx
      rcases mem_verCells hx with ⟨_, rfl⟩ | ⟨_, rfl⟩ <;> rfl
  refine step_append_own hgd s x 112 112 ho base 121 i0 (.agg #[.bool false, .string ⟨#[]⟩]) 2 24 Try.underlying112 hi hz0 hz1 hz2 rfl v n (verCells L) hs hown _ 1 (verCells [⟨g, d⟩]) hx hsrc (by unfold maxLen; omega) (by omega) hb ?_
  intro v' w' ho' hg'
  rw [← verCells_append] at ho'
  obtain ⟨a1, c1, rfl⟩ := own_shape ho'
  exact hK a1 c1 w' ho' ((Below.refl _ _).grown hg' hb (fun k hk => (hown.lt k hk).1))

theorem vsize1 (w : World) (o : Obj) : (w.alloc o).heap.size = w.heap.size + 1 := by simp
theorem vnew0 (w : World) (o : Obj) : (w.alloc o).drew.heap[w.heap.size]? = some o := heap_alloc_new w o
theorem vnew1 (w : World) (o1 o2 : Obj) : ((w.alloc o1).alloc o2).drew.heap[w.heap.size + 1]? = some o2 := by
  have := heap_alloc_new (w.alloc o1) o2
  rwa [vsize1] at this
theorem vold1 (w : World) (o1 o2 : Obj) : ((w.alloc o1).alloc o2).drew.heap[w.heap.size]? = some o1 :=
  (Below.heap_alloc (w.alloc o1) o2 _ (by rw [vsize1]; omega)).trans (heap_alloc_new w o1)
theorem vsize2 (w : World) (o1 o2 : Obj) : ((w.alloc o1).alloc o2).drew.heap.size = w.heap.size + 2 := by
  show ((w.alloc o1).alloc o2).heap.size = _
  rw [vsize1, vsize1]

theorem set4_cell {W : World} {R b : Nat} {a0 a1 a2 a3 : Value} (h : b ≠ R) (o : Nat) : ((((W.setCell ⟨R, 0, none⟩ a0).setCell ⟨R, 1, none⟩ a1).setCell ⟨R, 2, none⟩ a2).setCell ⟨R, 3, none⟩ a3).cell? ⟨b, o, none⟩ = W.cell? ⟨b, o, none⟩ := by
  have hq : ∀ (w : World) (k : Nat) (u : Value), (w.setCell ⟨R, k, none⟩ u).cell? ⟨b, o, none⟩ = w.cell? ⟨b, o, none⟩ := fun w k u => World.cell?_of_block (Below.heap_setCell _ _ _ _ h)
  rw [hq, hq, hq, hq]

/-- The version's block while the region runs. -/
def VerAt (W : World) (T : Nat) (g : Bool) (d : ByteArray) : Prop := W.heap[T]? = some (.cells #[.bool g, .string d] 121 (0, 0))
theorem VerAt.cells {W : World} {T : Nat} {g : Bool} {d : ByteArray} (h : VerAt W T g d) : W.cell? ⟨T, 0, none⟩ = some (.bool g) ∧ W.cell? ⟨T, 1, none⟩ = some (.string d) :=
  ⟨cell_of_row _ _ 0 _ _ _ h, cell_of_row _ _ 1 _ _ _ h⟩
theorem VerAt.keep {w w' : World} {T B : Nat} {g : Bool} {d : ByteArray} (h : VerAt w T g d) (hb : Below B w w') (hB : T < B) : VerAt w' T g d := (hb.block T hB).trans h
theorem VerAt.lt {W : World} {T : Nat} {g : Bool} {d : ByteArray} (h : VerAt W T g d) : T < W.heap.size := lt_of_block h

set_option maxRecDepth 100000 in
set_option maxHeartbeats 4000000 in
theorem rd_a (ao : Option Addr) (cap : Nat) (cl sq id : Int) (dt : ByteArray) (quota : Int) (w : World) (hq : 0 < quota)
    (HV : Hid (∀ u, Below w.heap.size w u → Vers u w.heap.size (.slice ao 0 cap) []))
    (HW : Hid (∀ u, Calls Try.prog 83 #[.agg #[.int .i64 cl, .int .i64 sq, .int .i64 1, .int .i64 id, .int .i64 0, .string dt]] u fun e w' => e = .returned (.bool true) ∧ Below u.heap.size u w')) :
    Calls Try.prog 113 #[.slice ao 0 cap, .agg #[.int .i64 cl, .int .i64 sq, .int .i64 1, .int .i64 id, .int .i64 0, .string dt], .int .i64 quota] w (Does ([] ++ [⟨false, dt⟩]) [] 1 (1) ⟨#[]⟩ w) := by
  go_enter Try.func113, Try.ntmps113
  go_wp2_with fail
  refine (HW.out _).mono ?_
  rintro e w1 ⟨rfl, B1⟩
  have C1 : Hid (Below w.heap.size w w1) := (((Below.refl _ w).alloc (Nat.le_refl _) _).alloc (by simp) _).trans (B1.mono (by simp; omega))
  have R1 : Hid (RepAt w1 (w.heap.size + 1) 0 0 ⟨#[]⟩ (.slice none 0 0)) := RepAt.keep (RepAt.new1 w _ 0 0 ⟨#[]⟩ (.slice none 0 0)) B1 (by simp)
  have D1 : Hid (ReqB w1 w.heap.size cl sq 1 id 0 dt) := ((ReqB.fresh w cl sq 1 id 0 dt 34).keep ((Below.refl (w.heap.size + 1) _).alloc (by simp) _) (by omega)).keep B1 (by simp; omega)
  have hlt := R1.out.lt
  obtain ⟨c0, c1, c2, c3, c4, c5⟩ := D1.out.cells
  clear B1
  go_wp2
  obtain ⟨W, hW⟩ : ∃ W, W = w1.alloc (.cells #[.bool false, .string dt] 121) := ⟨_, rfl⟩
  obtain ⟨T, hT⟩ : ∃ T, T = w1.heap.size := ⟨_, rfl⟩
  have VT : Hid (VerAt W T false dt) := by show VerAt _ _ _ _; rw [hW, hT]; exact heap_alloc_new w1 _
  have RW : Hid (RepAt W (w.heap.size + 1) 0 0 ⟨#[]⟩ (.slice none 0 0)) := by show RepAt _ _ _ _ _ _; rw [hW]; exact RepAt.alloc R1.out _
  have CW : Hid (Below w.heap.size w W) := by show Below _ _ _; rw [hW]; exact C1.out.alloc C1.out.size _
  have lR : w.heap.size + 1 < T := by rw [hT]; exact hlt
  rw [← hW, ← hT]
  clear hW hT R1 C1 D1 hlt c0 c1 c2 c3 c4 c5
  have lT := Lib.hid VT.out.lt
  obtain ⟨t0, t1⟩ := VT.out.cells
  have q1 : T ≠ w.heap.size + 1 := by omega
  have q2 : w.heap.size + 1 ≠ T := by omega
  have LR := Lib.hid lR
  clear lR
  have su : IntKind.i64.wrap 1 = 1 := IntWalk.i64_in _ (by omega)
  go_region_held3 (fun v => v.cell? ⟨T, 0, none⟩ = some (.bool false) ∧ v.cell? ⟨T, 1, none⟩ = some (.string dt))
    (first | (with_reducible exact ⟨t0, t1⟩) | (with_reducible exact ⟨(set4_cell q1 0).trans t0, (set4_cell q1 1).trans t1⟩) | (refine ⟨?_, ?_⟩ <;> first | assumption | go_keep))
    (first
      | (refine vapp1 rfl (.tmp 94) (.tmp 95) rfl W.heap.size _ (.slice ao 0 cap) [] 0 rfl rfl rfl w.heap.size (HV.out _ (CW.out.trans (Below.mono (show Below W.heap.size W _ by go_grown) CW.out.size))) (by omega) (by first | exact vnew0 _ _ | exact vnew1 _ _ _ | exact vold1 _ _ _) (by first | exact Nat.le_refl _ | exact Nat.le_succ _) ?_
         intro x1 y1 w2 O1 N1 k1
         have M1 := Lib.hid ((show Below W.heap.size W _ by go_grown).trans N1)
         have OH := Lib.hid O1
         have KP := Lib.hid k1
         obtain ⟨t0, t1⟩ := (VT.out.keep M1.out lT.out).cells
         clear O1 N1 k1)
      | (refine vapp2 rfl (.tmp 96) (.tmp 98) rfl W.heap.size _ _ [] 0 false dt rfl rfl (by first | exact OH.out | exact own_below OH.out ((Below.refl _ _).alloc (Nat.le_refl _) _)) (by omega) (by first | exact heap_alloc_new _ _ | exact (KP.out _ (by rw [vsize2]; first | exact Nat.lt_succ_self _ | exact Nat.lt_succ_of_lt (Nat.lt_succ_self _)) (by first | exact Nat.succ_ne_self _ | exact (Nat.succ_ne_self _).symm)).trans (vnew1 _ _ _) | exact (KP.out _ (by rw [vsize2]; first | exact Nat.lt_succ_self _ | exact Nat.lt_succ_of_lt (Nat.lt_succ_self _)) (by first | exact Nat.succ_ne_self _ | exact (Nat.succ_ne_self _).symm)).trans (vold1 _ _ _)) (by have := M1.out.size; first | exact this | (rw [vsize1]; exact Nat.le_succ_of_le this)) ?_
         intro x2 y2 w3 O2 N2
         have M2 := Lib.hid (M1.out.trans ((show Below W.heap.size w2 _ by first | exact Below.refl _ _ | exact (Below.refl _ _).alloc M1.out.size _).trans N2))
         have OG := Lib.hid O2
         obtain ⟨t0, t1⟩ := (VT.out.keep M2.out lT.out).cells
         obtain ⟨⟨d0, d1, d2, d3⟩, ⟨z0, z1, z2, z3⟩⟩ := (RW.out.keep M2.out RW.out.lt).cells
         clear O2 N2))
  all_goals
    have hR3 := RW.out.keep M2.out RW.out.lt
    have HE := Lib.hid (rep_stored (c' := 1) (n' := 1) (d' := ⟨#[]⟩) hR3 (.slice none 0 0)).cells.1
    have HVV := Lib.hid (vers_stored (R := w.heap.size + 1) (vers_own OG.out (Nat.le_refl _)) (fun a ha => fun h => absurd (own_lo OG.out a ha) (by rw [h]; exact Nat.not_le.2 (Nat.lt_trans LR.out lT.out))) 1 (1) ⟨#[]⟩ (.slice none 0 0))
    have HBB := Lib.hid (stored_below (CW.out.trans (M2.out.mono CW.out.size)) (Nat.le_succ w.heap.size) 1 (1) ⟨#[]⟩ (.slice none 0 0))
    clear hR3 t0 t1 d0 d1 d2 d3 z0 z1 z2 z3 q1 q2 su
    go_wp2
    obtain ⟨f0, f1, f2, f3⟩ := HE.out
    unfold stored at f0 f1 f2 f3
    refine bodyPost_ret (v := .tuple #[.slice x2 1 y2, .agg #[.int .i64 1, .int .i64 (1), .string ⟨#[]⟩, .slice none 0 0]]) (by simp [results, Try.results113, go_sem, f0, f1, f2, f3]) rfl ⟨x2, y2, none, 0, by rfl, ?_⟩
    
    exact ⟨HVV.out, Ints.none _ _, HBB.out⟩

set_option maxRecDepth 100000 in
set_option maxHeartbeats 4000000 in
theorem rd_b0 (b off n cap : Nat) (L : List VerV) (cl sq id : Int) (dt : ByteArray) (quota : Int) (w : World) (hq : (n : Int) < quota) (hn : L.length = n) (h1 : 1 ≤ n) (hn6 : n ≤ 1000000)
    (HV : Hid (∀ u, Below w.heap.size w u → Vers u w.heap.size (.slice (some ⟨b, off, none⟩) n cap) L))
    (HG : Hid (∀ u, Below w.heap.size w u → u.cell? ⟨b, off + (n - 1) * 2, none⟩ = some (.bool true)))
    (HW : Hid (∀ u, Calls Try.prog 83 #[.agg #[.int .i64 cl, .int .i64 sq, .int .i64 1, .int .i64 id, .int .i64 0, .string dt]] u fun e w' => e = .returned (.bool true) ∧ Below u.heap.size u w')) :
    Calls Try.prog 113 #[.slice (some ⟨b, off, none⟩) n cap, .agg #[.int .i64 cl, .int .i64 sq, .int .i64 1, .int .i64 id, .int .i64 0, .string dt], .int .i64 quota] w (Does (L ++ [⟨false, dt⟩]) [] 1 ((n : Int) + 1) ⟨#[]⟩ w) := by
  have HN := Lib.hid hn
  have p0 : (0 : Int) < (n : Int) := by omega
  have e0 : ((n : Int) == 0) = false := by rw [beq_eq_false_iff_ne]; omega
  have e1 : ((n : Int) != 0) = true := by rw [bne_iff_ne]; omega
  have g0 := HG.out _ (show Below w.heap.size w ((w.alloc (.cells #[.int .i64 cl, .int .i64 sq, .int .i64 1, .int .i64 id, .int .i64 0, .string dt] 34)).alloc (.cells #[.int .i64 0, .int .i64 0, .string ⟨#[]⟩, .slice none 0 0] 48)) by go_grown)
  clear hn
  go_enter Try.func113, Try.ntmps113
  go_wp2_with fail
  refine (HW.out _).mono ?_
  rintro e w1 ⟨rfl, B1⟩
  have C1 : Hid (Below w.heap.size w w1) := (((Below.refl _ w).alloc (Nat.le_refl _) _).alloc (by simp) _).trans (B1.mono (by simp; omega))
  have R1 : Hid (RepAt w1 (w.heap.size + 1) 0 0 ⟨#[]⟩ (.slice none 0 0)) := RepAt.keep (RepAt.new1 w _ 0 0 ⟨#[]⟩ (.slice none 0 0)) B1 (by simp)
  have D1 : Hid (ReqB w1 w.heap.size cl sq 1 id 0 dt) := ((ReqB.fresh w cl sq 1 id 0 dt 34).keep ((Below.refl (w.heap.size + 1) _).alloc (by simp) _) (by omega)).keep B1 (by simp; omega)
  have hlt := R1.out.lt
  obtain ⟨c0, c1, c2, c3, c4, c5⟩ := D1.out.cells
  clear B1 g0
  go_wp2
  obtain ⟨W, hW⟩ : ∃ W, W = w1.alloc (.cells #[.bool false, .string dt] 121) := ⟨_, rfl⟩
  obtain ⟨T, hT⟩ : ∃ T, T = w1.heap.size := ⟨_, rfl⟩
  have VT : Hid (VerAt W T false dt) := by show VerAt _ _ _ _; rw [hW, hT]; exact heap_alloc_new w1 _
  have RW : Hid (RepAt W (w.heap.size + 1) 0 0 ⟨#[]⟩ (.slice none 0 0)) := by show RepAt _ _ _ _ _ _; rw [hW]; exact RepAt.alloc R1.out _
  have CW : Hid (Below w.heap.size w W) := by show Below _ _ _; rw [hW]; exact C1.out.alloc C1.out.size _
  have lR : w.heap.size + 1 < T := by rw [hT]; exact hlt
  rw [← hW, ← hT]
  clear hW hT R1 C1 D1 hlt c0 c1 c2 c3 c4 c5
  have lT := Lib.hid VT.out.lt
  obtain ⟨t0, t1⟩ := VT.out.cells
  have q1 : T ≠ w.heap.size + 1 := by omega
  have q2 : w.heap.size + 1 ≠ T := by omega
  have LR := Lib.hid lR
  clear lR
  have su : IntKind.i64.wrap ((n : Int) + 1) = (n : Int) + 1 := IntWalk.i64_in _ (by omega)
  go_region_held3 (fun v => v.cell? ⟨T, 0, none⟩ = some (.bool false) ∧ v.cell? ⟨T, 1, none⟩ = some (.string dt))
    (first | (with_reducible exact ⟨t0, t1⟩) | (with_reducible exact ⟨(set4_cell q1 0).trans t0, (set4_cell q1 1).trans t1⟩) | (refine ⟨?_, ?_⟩ <;> first | assumption | go_keep))
    (first
      | (refine vapp1 rfl (.tmp 94) (.tmp 95) rfl W.heap.size _ (.slice (some ⟨b, off, none⟩) n cap) L n HN.out rfl rfl w.heap.size (HV.out _ (CW.out.trans (Below.mono (show Below W.heap.size W _ by go_grown) CW.out.size))) hn6 (by first | exact vnew0 _ _ | exact vnew1 _ _ _ | exact vold1 _ _ _) (by first | exact Nat.le_refl _ | exact Nat.le_succ _) ?_
         intro x1 y1 w2 O1 N1 k1
         have M1 := Lib.hid ((show Below W.heap.size W _ by go_grown).trans N1)
         have OH := Lib.hid O1
         have KP := Lib.hid k1
         obtain ⟨t0, t1⟩ := (VT.out.keep M1.out lT.out).cells
         clear O1 N1 k1)
      | (refine vapp2 rfl (.tmp 96) (.tmp 98) rfl W.heap.size _ _ L n false dt rfl rfl (by first | exact OH.out | exact own_below OH.out ((Below.refl _ _).alloc (Nat.le_refl _) _)) hn6 (by first | exact heap_alloc_new _ _ | exact (KP.out _ (by rw [vsize2]; first | exact Nat.lt_succ_self _ | exact Nat.lt_succ_of_lt (Nat.lt_succ_self _)) (by first | exact Nat.succ_ne_self _ | exact (Nat.succ_ne_self _).symm)).trans (vnew1 _ _ _) | exact (KP.out _ (by rw [vsize2]; first | exact Nat.lt_succ_self _ | exact Nat.lt_succ_of_lt (Nat.lt_succ_self _)) (by first | exact Nat.succ_ne_self _ | exact (Nat.succ_ne_self _).symm)).trans (vold1 _ _ _)) (by have := M1.out.size; first | exact this | (rw [vsize1]; exact Nat.le_succ_of_le this)) ?_
         intro x2 y2 w3 O2 N2
         have M2 := Lib.hid (M1.out.trans ((show Below W.heap.size w2 _ by first | exact Below.refl _ _ | exact (Below.refl _ _).alloc M1.out.size _).trans N2))
         have OG := Lib.hid O2
         obtain ⟨t0, t1⟩ := (VT.out.keep M2.out lT.out).cells
         obtain ⟨⟨d0, d1, d2, d3⟩, ⟨z0, z1, z2, z3⟩⟩ := (RW.out.keep M2.out RW.out.lt).cells
         clear O2 N2))
  all_goals
    have hR3 := RW.out.keep M2.out RW.out.lt
    have HE := Lib.hid (rep_stored (c' := 1) (n' := (n : Int) + 1) (d' := ⟨#[]⟩) hR3 (.slice none 0 0)).cells.1
    have HVV := Lib.hid (vers_stored (R := w.heap.size + 1) (vers_own OG.out (Nat.le_refl _)) (fun a ha => fun h => absurd (own_lo OG.out a ha) (by rw [h]; exact Nat.not_le.2 (Nat.lt_trans LR.out lT.out))) 1 ((n : Int) + 1) ⟨#[]⟩ (.slice none 0 0))
    have HBB := Lib.hid (stored_below (CW.out.trans (M2.out.mono CW.out.size)) (Nat.le_succ w.heap.size) 1 ((n : Int) + 1) ⟨#[]⟩ (.slice none 0 0))
    clear hR3 t0 t1 d0 d1 d2 d3 z0 z1 z2 z3 q1 q2 su
    go_wp2
    obtain ⟨f0, f1, f2, f3⟩ := HE.out
    unfold stored at f0 f1 f2 f3
    refine bodyPost_ret (v := .tuple #[.slice x2 (n + 1) y2, .agg #[.int .i64 1, .int .i64 ((n : Int) + 1), .string ⟨#[]⟩, .slice none 0 0]]) (by simp [results, Try.results113, go_sem, f0, f1, f2, f3]) rfl ⟨x2, y2, none, 0, by rw [List.length_append, HN.out]; rfl, ?_⟩
    rw [List.length_append, HN.out]
    exact ⟨HVV.out, Ints.none _ _, HBB.out⟩

set_option maxRecDepth 100000 in
set_option maxHeartbeats 4000000 in
theorem rd_b1 (b off n cap : Nat) (L : List VerV) (cl sq id : Int) (dt : ByteArray) (quota : Int) (w : World) (hq : (n : Int) < quota) (hn : L.length = n) (h1 : 1 ≤ n) (hn6 : n ≤ 1000000)
    (HV : Hid (∀ u, Below w.heap.size w u → Vers u w.heap.size (.slice (some ⟨b, off, none⟩) n cap) L))
    (HG : Hid (∀ u, Below w.heap.size w u → u.cell? ⟨b, off + (n - 1) * 2, none⟩ = some (.bool true)))
    (HW : Hid (∀ u, Calls Try.prog 83 #[.agg #[.int .i64 cl, .int .i64 sq, .int .i64 1, .int .i64 id, .int .i64 (n : Int), .string dt]] u fun e w' => e = .returned (.bool true) ∧ Below u.heap.size u w')) :
    Calls Try.prog 113 #[.slice (some ⟨b, off, none⟩) n cap, .agg #[.int .i64 cl, .int .i64 sq, .int .i64 1, .int .i64 id, .int .i64 (n : Int), .string dt], .int .i64 quota] w (Does (L ++ [⟨false, dt⟩]) [] 1 ((n : Int) + 1) ⟨#[]⟩ w) := by
  have HN := Lib.hid hn
  have p0 : (0 : Int) < (n : Int) := by omega
  have e0 : ((n : Int) == 0) = false := by rw [beq_eq_false_iff_ne]; omega
  have e1 : ((n : Int) != 0) = true := by rw [bne_iff_ne]; omega
  have g0 := HG.out _ (show Below w.heap.size w ((w.alloc (.cells #[.int .i64 cl, .int .i64 sq, .int .i64 1, .int .i64 id, .int .i64 (n : Int), .string dt] 34)).alloc (.cells #[.int .i64 0, .int .i64 0, .string ⟨#[]⟩, .slice none 0 0] 48)) by go_grown)
  clear hn
  go_enter Try.func113, Try.ntmps113
  go_wp2_with fail
  refine (HW.out _).mono ?_
  rintro e w1 ⟨rfl, B1⟩
  have C1 : Hid (Below w.heap.size w w1) := (((Below.refl _ w).alloc (Nat.le_refl _) _).alloc (by simp) _).trans (B1.mono (by simp; omega))
  have R1 : Hid (RepAt w1 (w.heap.size + 1) 0 0 ⟨#[]⟩ (.slice none 0 0)) := RepAt.keep (RepAt.new1 w _ 0 0 ⟨#[]⟩ (.slice none 0 0)) B1 (by simp)
  have D1 : Hid (ReqB w1 w.heap.size cl sq 1 id (n : Int) dt) := ((ReqB.fresh w cl sq 1 id (n : Int) dt 34).keep ((Below.refl (w.heap.size + 1) _).alloc (by simp) _) (by omega)).keep B1 (by simp; omega)
  have hlt := R1.out.lt
  obtain ⟨c0, c1, c2, c3, c4, c5⟩ := D1.out.cells
  clear B1 g0
  go_wp2
  obtain ⟨W, hW⟩ : ∃ W, W = w1.alloc (.cells #[.bool false, .string dt] 121) := ⟨_, rfl⟩
  obtain ⟨T, hT⟩ : ∃ T, T = w1.heap.size := ⟨_, rfl⟩
  have VT : Hid (VerAt W T false dt) := by show VerAt _ _ _ _; rw [hW, hT]; exact heap_alloc_new w1 _
  have RW : Hid (RepAt W (w.heap.size + 1) 0 0 ⟨#[]⟩ (.slice none 0 0)) := by show RepAt _ _ _ _ _ _; rw [hW]; exact RepAt.alloc R1.out _
  have CW : Hid (Below w.heap.size w W) := by show Below _ _ _; rw [hW]; exact C1.out.alloc C1.out.size _
  have lR : w.heap.size + 1 < T := by rw [hT]; exact hlt
  rw [← hW, ← hT]
  clear hW hT R1 C1 D1 hlt c0 c1 c2 c3 c4 c5
  have lT := Lib.hid VT.out.lt
  obtain ⟨t0, t1⟩ := VT.out.cells
  have q1 : T ≠ w.heap.size + 1 := by omega
  have q2 : w.heap.size + 1 ≠ T := by omega
  have LR := Lib.hid lR
  clear lR
  have su : IntKind.i64.wrap ((n : Int) + 1) = (n : Int) + 1 := IntWalk.i64_in _ (by omega)
  go_region_held3 (fun v => v.cell? ⟨T, 0, none⟩ = some (.bool false) ∧ v.cell? ⟨T, 1, none⟩ = some (.string dt))
    (first | (with_reducible exact ⟨t0, t1⟩) | (with_reducible exact ⟨(set4_cell q1 0).trans t0, (set4_cell q1 1).trans t1⟩) | (refine ⟨?_, ?_⟩ <;> first | assumption | go_keep))
    (first
      | (refine vapp1 rfl (.tmp 94) (.tmp 95) rfl W.heap.size _ (.slice (some ⟨b, off, none⟩) n cap) L n HN.out rfl rfl w.heap.size (HV.out _ (CW.out.trans (Below.mono (show Below W.heap.size W _ by go_grown) CW.out.size))) hn6 (by first | exact vnew0 _ _ | exact vnew1 _ _ _ | exact vold1 _ _ _) (by first | exact Nat.le_refl _ | exact Nat.le_succ _) ?_
         intro x1 y1 w2 O1 N1 k1
         have M1 := Lib.hid ((show Below W.heap.size W _ by go_grown).trans N1)
         have OH := Lib.hid O1
         have KP := Lib.hid k1
         obtain ⟨t0, t1⟩ := (VT.out.keep M1.out lT.out).cells
         clear O1 N1 k1)
      | (refine vapp2 rfl (.tmp 96) (.tmp 98) rfl W.heap.size _ _ L n false dt rfl rfl (by first | exact OH.out | exact own_below OH.out ((Below.refl _ _).alloc (Nat.le_refl _) _)) hn6 (by first | exact heap_alloc_new _ _ | exact (KP.out _ (by rw [vsize2]; first | exact Nat.lt_succ_self _ | exact Nat.lt_succ_of_lt (Nat.lt_succ_self _)) (by first | exact Nat.succ_ne_self _ | exact (Nat.succ_ne_self _).symm)).trans (vnew1 _ _ _) | exact (KP.out _ (by rw [vsize2]; first | exact Nat.lt_succ_self _ | exact Nat.lt_succ_of_lt (Nat.lt_succ_self _)) (by first | exact Nat.succ_ne_self _ | exact (Nat.succ_ne_self _).symm)).trans (vold1 _ _ _)) (by have := M1.out.size; first | exact this | (rw [vsize1]; exact Nat.le_succ_of_le this)) ?_
         intro x2 y2 w3 O2 N2
         have M2 := Lib.hid (M1.out.trans ((show Below W.heap.size w2 _ by first | exact Below.refl _ _ | exact (Below.refl _ _).alloc M1.out.size _).trans N2))
         have OG := Lib.hid O2
         obtain ⟨t0, t1⟩ := (VT.out.keep M2.out lT.out).cells
         obtain ⟨⟨d0, d1, d2, d3⟩, ⟨z0, z1, z2, z3⟩⟩ := (RW.out.keep M2.out RW.out.lt).cells
         clear O2 N2))
  all_goals
    have hR3 := RW.out.keep M2.out RW.out.lt
    have HE := Lib.hid (rep_stored (c' := 1) (n' := (n : Int) + 1) (d' := ⟨#[]⟩) hR3 (.slice none 0 0)).cells.1
    have HVV := Lib.hid (vers_stored (R := w.heap.size + 1) (vers_own OG.out (Nat.le_refl _)) (fun a ha => fun h => absurd (own_lo OG.out a ha) (by rw [h]; exact Nat.not_le.2 (Nat.lt_trans LR.out lT.out))) 1 ((n : Int) + 1) ⟨#[]⟩ (.slice none 0 0))
    have HBB := Lib.hid (stored_below (CW.out.trans (M2.out.mono CW.out.size)) (Nat.le_succ w.heap.size) 1 ((n : Int) + 1) ⟨#[]⟩ (.slice none 0 0))
    clear hR3 t0 t1 d0 d1 d2 d3 z0 z1 z2 z3 q1 q2 su
    go_wp2
    obtain ⟨f0, f1, f2, f3⟩ := HE.out
    unfold stored at f0 f1 f2 f3
    refine bodyPost_ret (v := .tuple #[.slice x2 (n + 1) y2, .agg #[.int .i64 1, .int .i64 ((n : Int) + 1), .string ⟨#[]⟩, .slice none 0 0]]) (by simp [results, Try.results113, go_sem, f0, f1, f2, f3]) rfl ⟨x2, y2, none, 0, by rw [List.length_append, HN.out]; rfl, ?_⟩
    rw [List.length_append, HN.out]
    exact ⟨HVV.out, Ints.none _ _, HBB.out⟩

set_option maxRecDepth 100000 in
set_option maxHeartbeats 4000000 in
theorem rd_c0 (b off n cap : Nat) (L : List VerV) (cl sq id : Int) (dt : ByteArray) (quota : Int) (w : World) (hq : (n : Int) < quota) (hn : L.length = n) (h1 : 1 ≤ n) (hn6 : n ≤ 1000000)
    (HV : Hid (∀ u, Below w.heap.size w u → Vers u w.heap.size (.slice (some ⟨b, off, none⟩) n cap) L))
    (HG : Hid (∀ u, Below w.heap.size w u → u.cell? ⟨b, off + (n - 1) * 2, none⟩ = some (.bool false)))
    (HW : Hid (∀ u, Calls Try.prog 83 #[.agg #[.int .i64 cl, .int .i64 sq, .int .i64 2, .int .i64 id, .int .i64 0, .string dt]] u fun e w' => e = .returned (.bool true) ∧ Below u.heap.size u w')) :
    Calls Try.prog 113 #[.slice (some ⟨b, off, none⟩) n cap, .agg #[.int .i64 cl, .int .i64 sq, .int .i64 2, .int .i64 id, .int .i64 0, .string dt], .int .i64 quota] w (Does (L ++ [⟨false, dt⟩]) [] 1 ((n : Int) + 1) ⟨#[]⟩ w) := by
  have HN := Lib.hid hn
  have p0 : (0 : Int) < (n : Int) := by omega
  have e0 : ((n : Int) == 0) = false := by rw [beq_eq_false_iff_ne]; omega
  have e1 : ((n : Int) != 0) = true := by rw [bne_iff_ne]; omega
  have g0 := HG.out _ (show Below w.heap.size w ((w.alloc (.cells #[.int .i64 cl, .int .i64 sq, .int .i64 2, .int .i64 id, .int .i64 0, .string dt] 34)).alloc (.cells #[.int .i64 0, .int .i64 0, .string ⟨#[]⟩, .slice none 0 0] 48)) by go_grown)
  clear hn
  go_enter Try.func113, Try.ntmps113
  go_wp2_with fail
  refine (HW.out _).mono ?_
  rintro e w1 ⟨rfl, B1⟩
  have C1 : Hid (Below w.heap.size w w1) := (((Below.refl _ w).alloc (Nat.le_refl _) _).alloc (by simp) _).trans (B1.mono (by simp; omega))
  have R1 : Hid (RepAt w1 (w.heap.size + 1) 0 0 ⟨#[]⟩ (.slice none 0 0)) := RepAt.keep (RepAt.new1 w _ 0 0 ⟨#[]⟩ (.slice none 0 0)) B1 (by simp)
  have D1 : Hid (ReqB w1 w.heap.size cl sq 2 id 0 dt) := ((ReqB.fresh w cl sq 2 id 0 dt 34).keep ((Below.refl (w.heap.size + 1) _).alloc (by simp) _) (by omega)).keep B1 (by simp; omega)
  have hlt := R1.out.lt
  obtain ⟨c0, c1, c2, c3, c4, c5⟩ := D1.out.cells
  clear B1 g0
  go_wp2
  obtain ⟨W, hW⟩ : ∃ W, W = w1.alloc (.cells #[.bool false, .string dt] 121) := ⟨_, rfl⟩
  obtain ⟨T, hT⟩ : ∃ T, T = w1.heap.size := ⟨_, rfl⟩
  have VT : Hid (VerAt W T false dt) := by show VerAt _ _ _ _; rw [hW, hT]; exact heap_alloc_new w1 _
  have RW : Hid (RepAt W (w.heap.size + 1) 0 0 ⟨#[]⟩ (.slice none 0 0)) := by show RepAt _ _ _ _ _ _; rw [hW]; exact RepAt.alloc R1.out _
  have CW : Hid (Below w.heap.size w W) := by show Below _ _ _; rw [hW]; exact C1.out.alloc C1.out.size _
  have lR : w.heap.size + 1 < T := by rw [hT]; exact hlt
  rw [← hW, ← hT]
  clear hW hT R1 C1 D1 hlt c0 c1 c2 c3 c4 c5
  have lT := Lib.hid VT.out.lt
  obtain ⟨t0, t1⟩ := VT.out.cells
  have q1 : T ≠ w.heap.size + 1 := by omega
  have q2 : w.heap.size + 1 ≠ T := by omega
  have LR := Lib.hid lR
  clear lR
  have su : IntKind.i64.wrap ((n : Int) + 1) = (n : Int) + 1 := IntWalk.i64_in _ (by omega)
  go_region_held3 (fun v => v.cell? ⟨T, 0, none⟩ = some (.bool false) ∧ v.cell? ⟨T, 1, none⟩ = some (.string dt))
    (first | (with_reducible exact ⟨t0, t1⟩) | (with_reducible exact ⟨(set4_cell q1 0).trans t0, (set4_cell q1 1).trans t1⟩) | (refine ⟨?_, ?_⟩ <;> first | assumption | go_keep))
    (first
      | (refine vapp1 rfl (.tmp 94) (.tmp 95) rfl W.heap.size _ (.slice (some ⟨b, off, none⟩) n cap) L n HN.out rfl rfl w.heap.size (HV.out _ (CW.out.trans (Below.mono (show Below W.heap.size W _ by go_grown) CW.out.size))) hn6 (by first | exact vnew0 _ _ | exact vnew1 _ _ _ | exact vold1 _ _ _) (by first | exact Nat.le_refl _ | exact Nat.le_succ _) ?_
         intro x1 y1 w2 O1 N1 k1
         have M1 := Lib.hid ((show Below W.heap.size W _ by go_grown).trans N1)
         have OH := Lib.hid O1
         have KP := Lib.hid k1
         obtain ⟨t0, t1⟩ := (VT.out.keep M1.out lT.out).cells
         clear O1 N1 k1)
      | (refine vapp2 rfl (.tmp 96) (.tmp 98) rfl W.heap.size _ _ L n false dt rfl rfl (by first | exact OH.out | exact own_below OH.out ((Below.refl _ _).alloc (Nat.le_refl _) _)) hn6 (by first | exact heap_alloc_new _ _ | exact (KP.out _ (by rw [vsize2]; first | exact Nat.lt_succ_self _ | exact Nat.lt_succ_of_lt (Nat.lt_succ_self _)) (by first | exact Nat.succ_ne_self _ | exact (Nat.succ_ne_self _).symm)).trans (vnew1 _ _ _) | exact (KP.out _ (by rw [vsize2]; first | exact Nat.lt_succ_self _ | exact Nat.lt_succ_of_lt (Nat.lt_succ_self _)) (by first | exact Nat.succ_ne_self _ | exact (Nat.succ_ne_self _).symm)).trans (vold1 _ _ _)) (by have := M1.out.size; first | exact this | (rw [vsize1]; exact Nat.le_succ_of_le this)) ?_
         intro x2 y2 w3 O2 N2
         have M2 := Lib.hid (M1.out.trans ((show Below W.heap.size w2 _ by first | exact Below.refl _ _ | exact (Below.refl _ _).alloc M1.out.size _).trans N2))
         have OG := Lib.hid O2
         obtain ⟨t0, t1⟩ := (VT.out.keep M2.out lT.out).cells
         obtain ⟨⟨d0, d1, d2, d3⟩, ⟨z0, z1, z2, z3⟩⟩ := (RW.out.keep M2.out RW.out.lt).cells
         clear O2 N2))
  all_goals
    have hR3 := RW.out.keep M2.out RW.out.lt
    have HE := Lib.hid (rep_stored (c' := 1) (n' := (n : Int) + 1) (d' := ⟨#[]⟩) hR3 (.slice none 0 0)).cells.1
    have HVV := Lib.hid (vers_stored (R := w.heap.size + 1) (vers_own OG.out (Nat.le_refl _)) (fun a ha => fun h => absurd (own_lo OG.out a ha) (by rw [h]; exact Nat.not_le.2 (Nat.lt_trans LR.out lT.out))) 1 ((n : Int) + 1) ⟨#[]⟩ (.slice none 0 0))
    have HBB := Lib.hid (stored_below (CW.out.trans (M2.out.mono CW.out.size)) (Nat.le_succ w.heap.size) 1 ((n : Int) + 1) ⟨#[]⟩ (.slice none 0 0))
    clear hR3 t0 t1 d0 d1 d2 d3 z0 z1 z2 z3 q1 q2 su
    go_wp2
    obtain ⟨f0, f1, f2, f3⟩ := HE.out
    unfold stored at f0 f1 f2 f3
    refine bodyPost_ret (v := .tuple #[.slice x2 (n + 1) y2, .agg #[.int .i64 1, .int .i64 ((n : Int) + 1), .string ⟨#[]⟩, .slice none 0 0]]) (by simp [results, Try.results113, go_sem, f0, f1, f2, f3]) rfl ⟨x2, y2, none, 0, by rw [List.length_append, HN.out]; rfl, ?_⟩
    rw [List.length_append, HN.out]
    exact ⟨HVV.out, Ints.none _ _, HBB.out⟩

set_option maxRecDepth 100000 in
set_option maxHeartbeats 4000000 in
theorem rd_c1 (b off n cap : Nat) (L : List VerV) (cl sq id : Int) (dt : ByteArray) (quota : Int) (w : World) (hq : (n : Int) < quota) (hn : L.length = n) (h1 : 1 ≤ n) (hn6 : n ≤ 1000000)
    (HV : Hid (∀ u, Below w.heap.size w u → Vers u w.heap.size (.slice (some ⟨b, off, none⟩) n cap) L))
    (HG : Hid (∀ u, Below w.heap.size w u → u.cell? ⟨b, off + (n - 1) * 2, none⟩ = some (.bool false)))
    (HW : Hid (∀ u, Calls Try.prog 83 #[.agg #[.int .i64 cl, .int .i64 sq, .int .i64 2, .int .i64 id, .int .i64 (n : Int), .string dt]] u fun e w' => e = .returned (.bool true) ∧ Below u.heap.size u w')) :
    Calls Try.prog 113 #[.slice (some ⟨b, off, none⟩) n cap, .agg #[.int .i64 cl, .int .i64 sq, .int .i64 2, .int .i64 id, .int .i64 (n : Int), .string dt], .int .i64 quota] w (Does (L ++ [⟨false, dt⟩]) [] 1 ((n : Int) + 1) ⟨#[]⟩ w) := by
  have HN := Lib.hid hn
  have p0 : (0 : Int) < (n : Int) := by omega
  have e0 : ((n : Int) == 0) = false := by rw [beq_eq_false_iff_ne]; omega
  have e1 : ((n : Int) != 0) = true := by rw [bne_iff_ne]; omega
  have g0 := HG.out _ (show Below w.heap.size w ((w.alloc (.cells #[.int .i64 cl, .int .i64 sq, .int .i64 2, .int .i64 id, .int .i64 (n : Int), .string dt] 34)).alloc (.cells #[.int .i64 0, .int .i64 0, .string ⟨#[]⟩, .slice none 0 0] 48)) by go_grown)
  clear hn
  go_enter Try.func113, Try.ntmps113
  go_wp2_with fail
  refine (HW.out _).mono ?_
  rintro e w1 ⟨rfl, B1⟩
  have C1 : Hid (Below w.heap.size w w1) := (((Below.refl _ w).alloc (Nat.le_refl _) _).alloc (by simp) _).trans (B1.mono (by simp; omega))
  have R1 : Hid (RepAt w1 (w.heap.size + 1) 0 0 ⟨#[]⟩ (.slice none 0 0)) := RepAt.keep (RepAt.new1 w _ 0 0 ⟨#[]⟩ (.slice none 0 0)) B1 (by simp)
  have D1 : Hid (ReqB w1 w.heap.size cl sq 2 id (n : Int) dt) := ((ReqB.fresh w cl sq 2 id (n : Int) dt 34).keep ((Below.refl (w.heap.size + 1) _).alloc (by simp) _) (by omega)).keep B1 (by simp; omega)
  have hlt := R1.out.lt
  obtain ⟨c0, c1, c2, c3, c4, c5⟩ := D1.out.cells
  clear B1 g0
  go_wp2
  obtain ⟨W, hW⟩ : ∃ W, W = w1.alloc (.cells #[.bool false, .string dt] 121) := ⟨_, rfl⟩
  obtain ⟨T, hT⟩ : ∃ T, T = w1.heap.size := ⟨_, rfl⟩
  have VT : Hid (VerAt W T false dt) := by show VerAt _ _ _ _; rw [hW, hT]; exact heap_alloc_new w1 _
  have RW : Hid (RepAt W (w.heap.size + 1) 0 0 ⟨#[]⟩ (.slice none 0 0)) := by show RepAt _ _ _ _ _ _; rw [hW]; exact RepAt.alloc R1.out _
  have CW : Hid (Below w.heap.size w W) := by show Below _ _ _; rw [hW]; exact C1.out.alloc C1.out.size _
  have lR : w.heap.size + 1 < T := by rw [hT]; exact hlt
  rw [← hW, ← hT]
  clear hW hT R1 C1 D1 hlt c0 c1 c2 c3 c4 c5
  have lT := Lib.hid VT.out.lt
  obtain ⟨t0, t1⟩ := VT.out.cells
  have q1 : T ≠ w.heap.size + 1 := by omega
  have q2 : w.heap.size + 1 ≠ T := by omega
  have LR := Lib.hid lR
  clear lR
  have su : IntKind.i64.wrap ((n : Int) + 1) = (n : Int) + 1 := IntWalk.i64_in _ (by omega)
  go_region_held3 (fun v => v.cell? ⟨T, 0, none⟩ = some (.bool false) ∧ v.cell? ⟨T, 1, none⟩ = some (.string dt))
    (first | (with_reducible exact ⟨t0, t1⟩) | (with_reducible exact ⟨(set4_cell q1 0).trans t0, (set4_cell q1 1).trans t1⟩) | (refine ⟨?_, ?_⟩ <;> first | assumption | go_keep))
    (first
      | (refine vapp1 rfl (.tmp 94) (.tmp 95) rfl W.heap.size _ (.slice (some ⟨b, off, none⟩) n cap) L n HN.out rfl rfl w.heap.size (HV.out _ (CW.out.trans (Below.mono (show Below W.heap.size W _ by go_grown) CW.out.size))) hn6 (by first | exact vnew0 _ _ | exact vnew1 _ _ _ | exact vold1 _ _ _) (by first | exact Nat.le_refl _ | exact Nat.le_succ _) ?_
         intro x1 y1 w2 O1 N1 k1
         have M1 := Lib.hid ((show Below W.heap.size W _ by go_grown).trans N1)
         have OH := Lib.hid O1
         have KP := Lib.hid k1
         obtain ⟨t0, t1⟩ := (VT.out.keep M1.out lT.out).cells
         clear O1 N1 k1)
      | (refine vapp2 rfl (.tmp 96) (.tmp 98) rfl W.heap.size _ _ L n false dt rfl rfl (by first | exact OH.out | exact own_below OH.out ((Below.refl _ _).alloc (Nat.le_refl _) _)) hn6 (by first | exact heap_alloc_new _ _ | exact (KP.out _ (by rw [vsize2]; first | exact Nat.lt_succ_self _ | exact Nat.lt_succ_of_lt (Nat.lt_succ_self _)) (by first | exact Nat.succ_ne_self _ | exact (Nat.succ_ne_self _).symm)).trans (vnew1 _ _ _) | exact (KP.out _ (by rw [vsize2]; first | exact Nat.lt_succ_self _ | exact Nat.lt_succ_of_lt (Nat.lt_succ_self _)) (by first | exact Nat.succ_ne_self _ | exact (Nat.succ_ne_self _).symm)).trans (vold1 _ _ _)) (by have := M1.out.size; first | exact this | (rw [vsize1]; exact Nat.le_succ_of_le this)) ?_
         intro x2 y2 w3 O2 N2
         have M2 := Lib.hid (M1.out.trans ((show Below W.heap.size w2 _ by first | exact Below.refl _ _ | exact (Below.refl _ _).alloc M1.out.size _).trans N2))
         have OG := Lib.hid O2
         obtain ⟨t0, t1⟩ := (VT.out.keep M2.out lT.out).cells
         obtain ⟨⟨d0, d1, d2, d3⟩, ⟨z0, z1, z2, z3⟩⟩ := (RW.out.keep M2.out RW.out.lt).cells
         clear O2 N2))
  all_goals
    have hR3 := RW.out.keep M2.out RW.out.lt
    have HE := Lib.hid (rep_stored (c' := 1) (n' := (n : Int) + 1) (d' := ⟨#[]⟩) hR3 (.slice none 0 0)).cells.1
    have HVV := Lib.hid (vers_stored (R := w.heap.size + 1) (vers_own OG.out (Nat.le_refl _)) (fun a ha => fun h => absurd (own_lo OG.out a ha) (by rw [h]; exact Nat.not_le.2 (Nat.lt_trans LR.out lT.out))) 1 ((n : Int) + 1) ⟨#[]⟩ (.slice none 0 0))
    have HBB := Lib.hid (stored_below (CW.out.trans (M2.out.mono CW.out.size)) (Nat.le_succ w.heap.size) 1 ((n : Int) + 1) ⟨#[]⟩ (.slice none 0 0))
    clear hR3 t0 t1 d0 d1 d2 d3 z0 z1 z2 z3 q1 q2 su
    go_wp2
    obtain ⟨f0, f1, f2, f3⟩ := HE.out
    unfold stored at f0 f1 f2 f3
    refine bodyPost_ret (v := .tuple #[.slice x2 (n + 1) y2, .agg #[.int .i64 1, .int .i64 ((n : Int) + 1), .string ⟨#[]⟩, .slice none 0 0]]) (by simp [results, Try.results113, go_sem, f0, f1, f2, f3]) rfl ⟨x2, y2, none, 0, by rw [List.length_append, HN.out]; rfl, ?_⟩
    rw [List.length_append, HN.out]
    exact ⟨HVV.out, Ints.none _ _, HBB.out⟩

set_option maxRecDepth 100000 in
set_option maxHeartbeats 4000000 in
theorem rd_d0 (b off n cap : Nat) (L : List VerV) (cl sq id : Int) (dt : ByteArray) (quota : Int) (w : World) (hq : (n : Int) < quota) (hn : L.length = n) (h1 : 1 ≤ n) (hn6 : n ≤ 1000000)
    (HV : Hid (∀ u, Below w.heap.size w u → Vers u w.heap.size (.slice (some ⟨b, off, none⟩) n cap) L))
    (HG : Hid (∀ u, Below w.heap.size w u → u.cell? ⟨b, off + (n - 1) * 2, none⟩ = some (.bool false)))
    (HW : Hid (∀ u, Calls Try.prog 83 #[.agg #[.int .i64 cl, .int .i64 sq, .int .i64 3, .int .i64 id, .int .i64 0, .string dt]] u fun e w' => e = .returned (.bool true) ∧ Below u.heap.size u w')) :
    Calls Try.prog 113 #[.slice (some ⟨b, off, none⟩) n cap, .agg #[.int .i64 cl, .int .i64 sq, .int .i64 3, .int .i64 id, .int .i64 0, .string dt], .int .i64 quota] w (Does (L ++ [⟨true, ⟨#[]⟩⟩]) [] 1 ((n : Int) + 1) ⟨#[]⟩ w) := by
  have HN := Lib.hid hn
  have p0 : (0 : Int) < (n : Int) := by omega
  have e0 : ((n : Int) == 0) = false := by rw [beq_eq_false_iff_ne]; omega
  have e1 : ((n : Int) != 0) = true := by rw [bne_iff_ne]; omega
  have g0 := HG.out _ (show Below w.heap.size w ((w.alloc (.cells #[.int .i64 cl, .int .i64 sq, .int .i64 3, .int .i64 id, .int .i64 0, .string dt] 34)).alloc (.cells #[.int .i64 0, .int .i64 0, .string ⟨#[]⟩, .slice none 0 0] 48)) by go_grown)
  clear hn
  go_enter Try.func113, Try.ntmps113
  go_wp2_with fail
  refine (HW.out _).mono ?_
  rintro e w1 ⟨rfl, B1⟩
  have C1 : Hid (Below w.heap.size w w1) := (((Below.refl _ w).alloc (Nat.le_refl _) _).alloc (by simp) _).trans (B1.mono (by simp; omega))
  have R1 : Hid (RepAt w1 (w.heap.size + 1) 0 0 ⟨#[]⟩ (.slice none 0 0)) := RepAt.keep (RepAt.new1 w _ 0 0 ⟨#[]⟩ (.slice none 0 0)) B1 (by simp)
  have D1 : Hid (ReqB w1 w.heap.size cl sq 3 id 0 dt) := ((ReqB.fresh w cl sq 3 id 0 dt 34).keep ((Below.refl (w.heap.size + 1) _).alloc (by simp) _) (by omega)).keep B1 (by simp; omega)
  have hlt := R1.out.lt
  obtain ⟨c0, c1, c2, c3, c4, c5⟩ := D1.out.cells
  clear B1 g0
  go_wp2
  obtain ⟨W, hW⟩ : ∃ W, W = w1.alloc (.cells #[.bool true, .string ⟨#[]⟩] 121) := ⟨_, rfl⟩
  obtain ⟨T, hT⟩ : ∃ T, T = w1.heap.size := ⟨_, rfl⟩
  have VT : Hid (VerAt W T true ⟨#[]⟩) := by show VerAt _ _ _ _; rw [hW, hT]; exact heap_alloc_new w1 _
  have RW : Hid (RepAt W (w.heap.size + 1) 0 0 ⟨#[]⟩ (.slice none 0 0)) := by show RepAt _ _ _ _ _ _; rw [hW]; exact RepAt.alloc R1.out _
  have CW : Hid (Below w.heap.size w W) := by show Below _ _ _; rw [hW]; exact C1.out.alloc C1.out.size _
  have lR : w.heap.size + 1 < T := by rw [hT]; exact hlt
  rw [← hW, ← hT]
  clear hW hT R1 C1 D1 hlt c0 c1 c2 c3 c4 c5
  have lT := Lib.hid VT.out.lt
  obtain ⟨t0, t1⟩ := VT.out.cells
  have q1 : T ≠ w.heap.size + 1 := by omega
  have q2 : w.heap.size + 1 ≠ T := by omega
  have LR := Lib.hid lR
  clear lR
  have su : IntKind.i64.wrap ((n : Int) + 1) = (n : Int) + 1 := IntWalk.i64_in _ (by omega)
  go_region_held3 (fun v => v.cell? ⟨T, 0, none⟩ = some (.bool true) ∧ v.cell? ⟨T, 1, none⟩ = some (.string ⟨#[]⟩))
    (first | (with_reducible exact ⟨t0, t1⟩) | (with_reducible exact ⟨(set4_cell q1 0).trans t0, (set4_cell q1 1).trans t1⟩) | (refine ⟨?_, ?_⟩ <;> first | assumption | go_keep))
    (first
      | (refine vapp1 rfl (.tmp 94) (.tmp 95) rfl W.heap.size _ (.slice (some ⟨b, off, none⟩) n cap) L n HN.out rfl rfl w.heap.size (HV.out _ (CW.out.trans (Below.mono (show Below W.heap.size W _ by go_grown) CW.out.size))) hn6 (by first | exact vnew0 _ _ | exact vnew1 _ _ _ | exact vold1 _ _ _) (by first | exact Nat.le_refl _ | exact Nat.le_succ _) ?_
         intro x1 y1 w2 O1 N1 k1
         have M1 := Lib.hid ((show Below W.heap.size W _ by go_grown).trans N1)
         have OH := Lib.hid O1
         have KP := Lib.hid k1
         obtain ⟨t0, t1⟩ := (VT.out.keep M1.out lT.out).cells
         clear O1 N1 k1)
      | (refine vapp2 rfl (.tmp 96) (.tmp 98) rfl W.heap.size _ _ L n true ⟨#[]⟩ rfl rfl (by first | exact OH.out | exact own_below OH.out ((Below.refl _ _).alloc (Nat.le_refl _) _)) hn6 (by first | exact heap_alloc_new _ _ | exact (KP.out _ (by rw [vsize2]; first | exact Nat.lt_succ_self _ | exact Nat.lt_succ_of_lt (Nat.lt_succ_self _)) (by first | exact Nat.succ_ne_self _ | exact (Nat.succ_ne_self _).symm)).trans (vnew1 _ _ _) | exact (KP.out _ (by rw [vsize2]; first | exact Nat.lt_succ_self _ | exact Nat.lt_succ_of_lt (Nat.lt_succ_self _)) (by first | exact Nat.succ_ne_self _ | exact (Nat.succ_ne_self _).symm)).trans (vold1 _ _ _)) (by have := M1.out.size; first | exact this | (rw [vsize1]; exact Nat.le_succ_of_le this)) ?_
         intro x2 y2 w3 O2 N2
         have M2 := Lib.hid (M1.out.trans ((show Below W.heap.size w2 _ by first | exact Below.refl _ _ | exact (Below.refl _ _).alloc M1.out.size _).trans N2))
         have OG := Lib.hid O2
         obtain ⟨t0, t1⟩ := (VT.out.keep M2.out lT.out).cells
         obtain ⟨⟨d0, d1, d2, d3⟩, ⟨z0, z1, z2, z3⟩⟩ := (RW.out.keep M2.out RW.out.lt).cells
         clear O2 N2))
  all_goals
    have hR3 := RW.out.keep M2.out RW.out.lt
    have HE := Lib.hid (rep_stored (c' := 1) (n' := (n : Int) + 1) (d' := ⟨#[]⟩) hR3 (.slice none 0 0)).cells.1
    have HVV := Lib.hid (vers_stored (R := w.heap.size + 1) (vers_own OG.out (Nat.le_refl _)) (fun a ha => fun h => absurd (own_lo OG.out a ha) (by rw [h]; exact Nat.not_le.2 (Nat.lt_trans LR.out lT.out))) 1 ((n : Int) + 1) ⟨#[]⟩ (.slice none 0 0))
    have HBB := Lib.hid (stored_below (CW.out.trans (M2.out.mono CW.out.size)) (Nat.le_succ w.heap.size) 1 ((n : Int) + 1) ⟨#[]⟩ (.slice none 0 0))
    clear hR3 t0 t1 d0 d1 d2 d3 z0 z1 z2 z3 q1 q2 su
    go_wp2
    obtain ⟨f0, f1, f2, f3⟩ := HE.out
    unfold stored at f0 f1 f2 f3
    refine bodyPost_ret (v := .tuple #[.slice x2 (n + 1) y2, .agg #[.int .i64 1, .int .i64 ((n : Int) + 1), .string ⟨#[]⟩, .slice none 0 0]]) (by simp [results, Try.results113, go_sem, f0, f1, f2, f3]) rfl ⟨x2, y2, none, 0, by rw [List.length_append, HN.out]; rfl, ?_⟩
    rw [List.length_append, HN.out]
    exact ⟨HVV.out, Ints.none _ _, HBB.out⟩

set_option maxRecDepth 100000 in
set_option maxHeartbeats 4000000 in
theorem rd_d1 (b off n cap : Nat) (L : List VerV) (cl sq id : Int) (dt : ByteArray) (quota : Int) (w : World) (hq : (n : Int) < quota) (hn : L.length = n) (h1 : 1 ≤ n) (hn6 : n ≤ 1000000)
    (HV : Hid (∀ u, Below w.heap.size w u → Vers u w.heap.size (.slice (some ⟨b, off, none⟩) n cap) L))
    (HG : Hid (∀ u, Below w.heap.size w u → u.cell? ⟨b, off + (n - 1) * 2, none⟩ = some (.bool false)))
    (HW : Hid (∀ u, Calls Try.prog 83 #[.agg #[.int .i64 cl, .int .i64 sq, .int .i64 3, .int .i64 id, .int .i64 (n : Int), .string dt]] u fun e w' => e = .returned (.bool true) ∧ Below u.heap.size u w')) :
    Calls Try.prog 113 #[.slice (some ⟨b, off, none⟩) n cap, .agg #[.int .i64 cl, .int .i64 sq, .int .i64 3, .int .i64 id, .int .i64 (n : Int), .string dt], .int .i64 quota] w (Does (L ++ [⟨true, ⟨#[]⟩⟩]) [] 1 ((n : Int) + 1) ⟨#[]⟩ w) := by
  have HN := Lib.hid hn
  have p0 : (0 : Int) < (n : Int) := by omega
  have e0 : ((n : Int) == 0) = false := by rw [beq_eq_false_iff_ne]; omega
  have e1 : ((n : Int) != 0) = true := by rw [bne_iff_ne]; omega
  have g0 := HG.out _ (show Below w.heap.size w ((w.alloc (.cells #[.int .i64 cl, .int .i64 sq, .int .i64 3, .int .i64 id, .int .i64 (n : Int), .string dt] 34)).alloc (.cells #[.int .i64 0, .int .i64 0, .string ⟨#[]⟩, .slice none 0 0] 48)) by go_grown)
  clear hn
  go_enter Try.func113, Try.ntmps113
  go_wp2_with fail
  refine (HW.out _).mono ?_
  rintro e w1 ⟨rfl, B1⟩
  have C1 : Hid (Below w.heap.size w w1) := (((Below.refl _ w).alloc (Nat.le_refl _) _).alloc (by simp) _).trans (B1.mono (by simp; omega))
  have R1 : Hid (RepAt w1 (w.heap.size + 1) 0 0 ⟨#[]⟩ (.slice none 0 0)) := RepAt.keep (RepAt.new1 w _ 0 0 ⟨#[]⟩ (.slice none 0 0)) B1 (by simp)
  have D1 : Hid (ReqB w1 w.heap.size cl sq 3 id (n : Int) dt) := ((ReqB.fresh w cl sq 3 id (n : Int) dt 34).keep ((Below.refl (w.heap.size + 1) _).alloc (by simp) _) (by omega)).keep B1 (by simp; omega)
  have hlt := R1.out.lt
  obtain ⟨c0, c1, c2, c3, c4, c5⟩ := D1.out.cells
  clear B1 g0
  go_wp2
  obtain ⟨W, hW⟩ : ∃ W, W = w1.alloc (.cells #[.bool true, .string ⟨#[]⟩] 121) := ⟨_, rfl⟩
  obtain ⟨T, hT⟩ : ∃ T, T = w1.heap.size := ⟨_, rfl⟩
  have VT : Hid (VerAt W T true ⟨#[]⟩) := by show VerAt _ _ _ _; rw [hW, hT]; exact heap_alloc_new w1 _
  have RW : Hid (RepAt W (w.heap.size + 1) 0 0 ⟨#[]⟩ (.slice none 0 0)) := by show RepAt _ _ _ _ _ _; rw [hW]; exact RepAt.alloc R1.out _
  have CW : Hid (Below w.heap.size w W) := by show Below _ _ _; rw [hW]; exact C1.out.alloc C1.out.size _
  have lR : w.heap.size + 1 < T := by rw [hT]; exact hlt
  rw [← hW, ← hT]
  clear hW hT R1 C1 D1 hlt c0 c1 c2 c3 c4 c5
  have lT := Lib.hid VT.out.lt
  obtain ⟨t0, t1⟩ := VT.out.cells
  have q1 : T ≠ w.heap.size + 1 := by omega
  have q2 : w.heap.size + 1 ≠ T := by omega
  have LR := Lib.hid lR
  clear lR
  have su : IntKind.i64.wrap ((n : Int) + 1) = (n : Int) + 1 := IntWalk.i64_in _ (by omega)
  go_region_held3 (fun v => v.cell? ⟨T, 0, none⟩ = some (.bool true) ∧ v.cell? ⟨T, 1, none⟩ = some (.string ⟨#[]⟩))
    (first | (with_reducible exact ⟨t0, t1⟩) | (with_reducible exact ⟨(set4_cell q1 0).trans t0, (set4_cell q1 1).trans t1⟩) | (refine ⟨?_, ?_⟩ <;> first | assumption | go_keep))
    (first
      | (refine vapp1 rfl (.tmp 94) (.tmp 95) rfl W.heap.size _ (.slice (some ⟨b, off, none⟩) n cap) L n HN.out rfl rfl w.heap.size (HV.out _ (CW.out.trans (Below.mono (show Below W.heap.size W _ by go_grown) CW.out.size))) hn6 (by first | exact vnew0 _ _ | exact vnew1 _ _ _ | exact vold1 _ _ _) (by first | exact Nat.le_refl _ | exact Nat.le_succ _) ?_
         intro x1 y1 w2 O1 N1 k1
         have M1 := Lib.hid ((show Below W.heap.size W _ by go_grown).trans N1)
         have OH := Lib.hid O1
         have KP := Lib.hid k1
         obtain ⟨t0, t1⟩ := (VT.out.keep M1.out lT.out).cells
         clear O1 N1 k1)
      | (refine vapp2 rfl (.tmp 96) (.tmp 98) rfl W.heap.size _ _ L n true ⟨#[]⟩ rfl rfl (by first | exact OH.out | exact own_below OH.out ((Below.refl _ _).alloc (Nat.le_refl _) _)) hn6 (by first | exact heap_alloc_new _ _ | exact (KP.out _ (by rw [vsize2]; first | exact Nat.lt_succ_self _ | exact Nat.lt_succ_of_lt (Nat.lt_succ_self _)) (by first | exact Nat.succ_ne_self _ | exact (Nat.succ_ne_self _).symm)).trans (vnew1 _ _ _) | exact (KP.out _ (by rw [vsize2]; first | exact Nat.lt_succ_self _ | exact Nat.lt_succ_of_lt (Nat.lt_succ_self _)) (by first | exact Nat.succ_ne_self _ | exact (Nat.succ_ne_self _).symm)).trans (vold1 _ _ _)) (by have := M1.out.size; first | exact this | (rw [vsize1]; exact Nat.le_succ_of_le this)) ?_
         intro x2 y2 w3 O2 N2
         have M2 := Lib.hid (M1.out.trans ((show Below W.heap.size w2 _ by first | exact Below.refl _ _ | exact (Below.refl _ _).alloc M1.out.size _).trans N2))
         have OG := Lib.hid O2
         obtain ⟨t0, t1⟩ := (VT.out.keep M2.out lT.out).cells
         obtain ⟨⟨d0, d1, d2, d3⟩, ⟨z0, z1, z2, z3⟩⟩ := (RW.out.keep M2.out RW.out.lt).cells
         clear O2 N2))
  all_goals
    have hR3 := RW.out.keep M2.out RW.out.lt
    have HE := Lib.hid (rep_stored (c' := 1) (n' := (n : Int) + 1) (d' := ⟨#[]⟩) hR3 (.slice none 0 0)).cells.1
    have HVV := Lib.hid (vers_stored (R := w.heap.size + 1) (vers_own OG.out (Nat.le_refl _)) (fun a ha => fun h => absurd (own_lo OG.out a ha) (by rw [h]; exact Nat.not_le.2 (Nat.lt_trans LR.out lT.out))) 1 ((n : Int) + 1) ⟨#[]⟩ (.slice none 0 0))
    have HBB := Lib.hid (stored_below (CW.out.trans (M2.out.mono CW.out.size)) (Nat.le_succ w.heap.size) 1 ((n : Int) + 1) ⟨#[]⟩ (.slice none 0 0))
    clear hR3 t0 t1 d0 d1 d2 d3 z0 z1 z2 z3 q1 q2 su
    go_wp2
    obtain ⟨f0, f1, f2, f3⟩ := HE.out
    unfold stored at f0 f1 f2 f3
    refine bodyPost_ret (v := .tuple #[.slice x2 (n + 1) y2, .agg #[.int .i64 1, .int .i64 ((n : Int) + 1), .string ⟨#[]⟩, .slice none 0 0]]) (by simp [results, Try.results113, go_sem, f0, f1, f2, f3]) rfl ⟨x2, y2, none, 0, by rw [List.length_append, HN.out]; rfl, ?_⟩
    rw [List.length_append, HN.out]
    exact ⟨HVV.out, Ints.none _ _, HBB.out⟩

end Go.Proofs.Ytenjjgghoacboaa
