/-
  THE REFERENCE's COUNT as plain data, in memory, and its calls: has, Chain, Yes, Promise. Votes' chains lie in what came in.
-/
import Derived.Test.YtiidmiioegdfaaaTalB
import Derived.Test.YtiidmiioegdfaaaItemRC
import Derived.Test.YtiidmiioegdfaaaClockV
import Derived.Test.YtiidmiioegdfaaaPackBase
namespace Go.Proofs.Ytiidmiioegdfaaa
open Go.RowKit Go.Maps

theorem ty_append_at {P : Program} {w : World} (base : Nat) (t tx ty e : TypeId) (i : TypeInfo) (z : Value) (size bytes : Nat) (ht : P.underlying t = some (.slice e)) (hi : P.info? e = some i) (hz : i.zero = some z)
    (hsize : i.size = size) (hby : i.bytes = bytes) (hzs : z.cells.size = size)
    (v : Value) (n : Nat) (xs : List Value) (hown : w.ownsRow base e size v n xs)
    (x : Value) (m : Nat) (news : List Value) (hs : Src P size tx x m news w)
    (h63 : n + m ≤ maxLen) (hbytes : (n + m) * bytes ≤ 140737488355328) (hbase : base ≤ w.heap.size) :
    ∃ v' w', (Builtin.append_ #[t, tx] ty #[v, x]).run P w = .ok v' w' ∧ w'.ownsRow base e size v' (n + m) (xs ++ news) ∧ w.grownBy w' v.ownBlock ∧ (∀ b, v'.ownBlock = some b → v.ownBlock = some b ∨ w.heap.size ≤ b) := by
  subst hsize
  subst hby
  have hl := hs.newsLen
  have hlen : (xs ++ news).length = (n + m) * i.size := by rw [List.length_append, hown.1, hl, Nat.add_mul]
  have hsm : n + m ≤ 9223372036854775807 := by simp only [maxLen] at h63; omega
  have grown : ∀ (old : Nat), old < n + m → ∀ (row : Option Nat),
      (w.drew.alloc (.cells ((xs ++ news).toArray ++ Builtin.zeroCells z.cells (grownCap w (n + m) old e - (n + m))) e)).ownsRow base e i.size
        (.slice (some ⟨w.heap.size, 0, none⟩) (n + m) (grownCap w (n + m) old e)) (n + m) (xs ++ news) ∧
      w.grownBy (w.drew.alloc (.cells ((xs ++ news).toArray ++ Builtin.zeroCells z.cells (grownCap w (n + m) old e - (n + m))) e)) row := by
    intro old ho row
    have hge := grownCap_ge w (n + m) old e
    have hcm : grownCap w (n + m) old e ≤ maxLen := grownCap_le_maxLen w (n + m) old e h63
    refine ⟨⟨hlen, .inr ⟨w.heap.size, _, _, rfl, hbase, heap_alloc_new w.drew _, hge, hcm, ?_, ?_⟩⟩, ⟨rfl, rfl, rfl, by simp, fun k hk _ => Below.heap_alloc w.drew _ k hk⟩⟩
    · simp only [Array.size_append, List.size_toArray, size_zeroCells, hzs, hlen, ← Nat.add_mul]
      congr 1
      omega
    · simp only [Array.toList_append]
      rw [← hlen]
      exact List.take_left
  rcases hown.2 with ⟨rfl, rfl⟩ | ⟨g, cap, cur, rfl, hbg, hg, hnc, hcm, hcs, htake⟩
  · have hx : xs = [] := List.eq_nil_of_length_eq_zero (by simpa using hown.1)
    subst hx
    by_cases hm : m = 0
    · subst hm
      have hn : news = [] := List.eq_nil_of_length_eq_zero (by simpa using hl)
      subst hn
      refine ⟨.slice none 0 0, w, ?_, World.ownsRow_nil w base e i.size, ⟨rfl, rfl, rfl, Nat.le_refl _, fun _ _ _ => rfl⟩, fun _ hb => .inl hb⟩
      rcases hs.kind with ⟨e', hk⟩ | hk <;> simp [Builtin.append_, run_underlying ht, run_underlying hk, sizeOf, typeInfo, hi, hs.len, hs.cells]
    · have hr := run_append_grow_src (P := P) w t tx ty e i z ht hi hz none 0 0 [] (run_firstCells_none w.drew i.size 0 0 0) x m news hs (by omega) (by omega) (growslice_fits (by omega) (by simpa using hbytes))
      have hgr := grown 0 (by omega) (Value.ownBlock (.slice none 0 0))
      simp only [Nat.zero_add, List.nil_append] at hgr hr ⊢
      exact ⟨_, _, hr, hgr.1, hgr.2, fun b hb => .inr (by simp [Value.ownBlock] at hb; omega)⟩
  · by_cases hroom : n + m ≤ cap
    · have hfit : n * i.size + news.length ≤ cur.size := by rw [hl, hcs, ← Nat.add_mul]; exact Nat.mul_le_mul_right _ hroom
      have hst := run_storeCells_at P g (n * i.size) e news 0 cur w hg (by simpa using hfit) hs.one
      simp only [Nat.add_zero] at hst
      have hr : (Builtin.append_ #[t, tx] ty #[.slice (some ⟨g, 0, none⟩) n cap, x]).run P w =
          .ok (.slice (some ⟨g, 0, none⟩) (n + m) cap) (w.setRow g (cur.toList.take (n * i.size) ++ news ++ cur.toList.drop (n * i.size + news.length)).toArray) := by
        rcases hs.kind with ⟨e', hk⟩ | hk <;> simp [Builtin.append_, run_underlying ht, run_underlying hk, sizeOf, typeInfo, hi, hs.len, hroom, hs.cells, Addr.add_lit, hst]
      refine ⟨_, _, hr, ⟨hlen, .inr ⟨g, cap, _, rfl, hbg, setRow_heap w g cur _ e _ hg, hroom, hcm, ?_, ?_⟩⟩, ⟨rfl, rfl, rfl, by simp, fun k _ hk => setRow_other w g k _ (fun e => hk (by simp [Value.ownBlock, e]))⟩, fun _ hb => .inl hb⟩
      · simp only [List.size_toArray, List.length_append, List.length_take, List.length_drop, Array.length_toList]
        omega
      · rw [htake, ← hlen]
        exact List.take_left
    · have holds : ∀ j u, xs[j]? = some u → w.drew.cell? ((⟨g, 0, none⟩ : Addr).add j) = some u := hown.cells (g := g) rfl
      have hr := run_append_grow_src (P := P) w t tx ty e i z ht hi hz (some ⟨g, 0, none⟩) n cap xs (run_firstCells_some w.drew i.size n ⟨g, 0, none⟩ n cap xs hown.1 holds) x m news hs (by omega) (by omega) (growslice_fits (by omega) hbytes)
      have hgr := grown cap (by omega) (Value.ownBlock (.slice (some ⟨g, 0, none⟩) n cap))
      exact ⟨_, _, hr, hgr.1, hgr.2, fun b hb => .inr (by simp [Value.ownBlock] at hb; omega)⟩

/-- A vote, and where its chain's nodes lie. -/
structure VoteW where
  v : VoteV
  c : Value
def vcell (x : VoteW) : List Value := [.int .i64 x.v.pr, .int .i64 x.v.pn, .int .i64 x.v.ar, .int .i64 x.v.an, .bool x.v.has, .int .i64 x.v.ce, x.c]
def vcells : List VoteW → List Value
  | [] => []
  | x :: l => vcell x ++ vcells l
theorem vcells_snoc (l : List VoteW) (x : VoteW) : vcells l ++ vcell x = vcells (l ++ [x]) := by
  induction l with
  | nil => simp [vcells]
  | cons y l ih => simp [vcells, ← ih]
theorem vcells_get : ∀ (l : List VoteW) (k : Nat) (hk : k < l.length) (j : Nat), j < 7 → (vcells l)[k * 7 + j]? = (vcell l[k])[j]?
  | x :: l, 0, _, j, hj => by
    show (vcell x ++ vcells l)[0 * 7 + j]? = (vcell x)[j]?
    rw [Nat.zero_mul, Nat.zero_add, List.getElem?_append_left (by simp [vcell]; omega)]
  | x :: l, k + 1, hk, j, hj => by
    have h := vcells_get l k (by simpa using hk) j hj
    show (vcell x ++ vcells l)[(k + 1) * 7 + j]? = (vcell (l[k]'(by simpa using hk)))[j]?
    rw [List.getElem?_append_right (by simp [vcell]; omega), ← h]
    congr 1
    simp [vcell]
    omega
/-- The reference's count as plain data. -/
structure RefV where
  n : Int
  r : Int
  k : Int
  ce : Int
  cv : Value
  C : List Int
  V : List VoteW
  F : List Int
  S : List Int
def RTB (w : World) (X : Nat) (vv fv sv : Value) (d : RefV) : Prop := w.heap[X]? = some (.cells #[.int .i64 d.n, .int .i64 d.r, .int .i64 d.k, .int .i64 d.ce, d.cv, vv, fv, sv] 38 (0, 0))
theorem RTB.lt {w : World} {X : Nat} {vv fv sv : Value} {d : RefV} (h : RTB w X vv fv sv d) : X < w.heap.size := lt_of_block h
theorem RTB.cells {w : World} {X : Nat} {vv fv sv : Value} {d : RefV} (h : RTB w X vv fv sv d) : w.cell? ⟨X, 0, none⟩ = some (.int .i64 d.n) ∧ w.cell? ⟨X, 1, none⟩ = some (.int .i64 d.r) ∧ w.cell? ⟨X, 2, none⟩ = some (.int .i64 d.k) ∧ w.cell? ⟨X, 3, none⟩ = some (.int .i64 d.ce) ∧
    w.cell? ⟨X, 4, none⟩ = some d.cv ∧ w.cell? ⟨X, 5, none⟩ = some vv ∧ w.cell? ⟨X, 6, none⟩ = some fv ∧ w.cell? ⟨X, 7, none⟩ = some sv := by
  have h' : w.heap[X]? = some (.cells #[.int .i64 d.n, .int .i64 d.r, .int .i64 d.k, .int .i64 d.ce, d.cv, vv, fv, sv] 38 (0, 0)) := h
  refine ⟨?_, ?_, ?_, ?_, ?_, ?_, ?_, ?_⟩ <;> simp [World.cell?, h']
theorem RTB.free {w : World} {X : Nat} {vv fv sv : Value} {d : RefV} (h : RTB w X vv fv sv d) (o : Nat) : w.frozen? ⟨X, o, none⟩ = false := by
  have h' : w.heap[X]? = some (.cells #[.int .i64 d.n, .int .i64 d.r, .int .i64 d.k, .int .i64 d.ce, d.cv, vv, fv, sv] 38 (0, 0)) := h
  simp [World.frozen?, h']
theorem RTB.on {w w' : World} {X : Nat} {vv fv sv : Value} {d : RefV} (h : RTB w X vv fv sv d) (hb : Below w.heap.size w w') : RTB w' X vv fv sv d := (hb.block X h.lt).trans h
/-- The reference's count in memory, from block n on. -/
structure RTal (n : Nat) (w0 : World) (X : Nat) (vv fv sv : Value) (d : RefV) (w : World) : Prop where
  b : RTB w X vv fv sv d
  low : n ≤ X
  v : w.ownsRow n 40 7 vv d.V.length (vcells d.V)
  f : w.ownsRow n 3 1 fv d.F.length (intCells d.F)
  s : w.ownsRow n 3 1 sv d.S.length (intCells d.S)
  ne : ∀ b, fv.ownBlock = some b → sv.ownBlock ≠ some b
  bel : Below n w0 w
  size : n ≤ w.heap.size
  base : n ≤ w0.heap.size
  cI : Ints w0 n d.cv d.C
  vI : ∀ x ∈ d.V, Ints w0 n x.c x.v.C
theorem RTal.on {n : Nat} {w0 w w' : World} {X : Nat} {vv fv sv : Value} {d : RefV} (h : RTal n w0 X vv fv sv d w) (hb : Below w.heap.size w w') : RTal n w0 X vv fv sv d w' :=
  ⟨h.b.on hb, h.low, rowOn h.v hb, rowOn h.f hb, rowOn h.s hb, h.ne, h.bel.trans (hb.mono h.size), Nat.le_trans h.size hb.size, h.base, h.cI, h.vI⟩
/-- A row's block, by its type. -/
theorem row_kindT {w : World} {n : Nat} {T : TypeId} {k i : Nat} {v : Value} {xs : List Value} (h : w.ownsRow n T k v i xs) {b : Nat} (hb : v.ownBlock = some b) : ∃ cs, w.heap[b]? = some (.cells cs T (0, 0)) := by
  rcases h.2 with ⟨rfl, _⟩ | ⟨g, cap, cur, rfl, _, hh, _⟩
  · simp [Value.ownBlock] at hb
  · simp [Value.ownBlock] at hb
    subst hb
    exact ⟨_, hh⟩
theorem row_still {w w' : World} {n : Nat} {T : TypeId} {k i : Nat} {v : Value} {xs : List Value} (h : w.ownsRow n T k v i xs) (hk : ∀ b, v.ownBlock = some b → w'.heap[b]? = w.heap[b]?) : w'.ownsRow n T k v i xs := by
  refine ⟨h.1, ?_⟩
  rcases h.2 with h0 | ⟨g, cap, cur, rfl, hg, hh, hr⟩
  · exact .inl h0
  · exact .inr ⟨g, cap, cur, rfl, hg, (hk g (by simp [Value.ownBlock])).trans hh, hr⟩
/-- The reference's count stands while the program's is turned. -/
theorem RTal.kT {n : Nat} {w0 w w' : World} {X : Nat} {vv fv sv : Value} {d : RefV} (h : RTal n w0 X vv fv sv d w) (hk : KTal w w') (hb : Below n w0 w') : RTal n w0 X vv fv sv d w' := by
  have rs : ∀ {T : TypeId} {k i : Nat} {v : Value} {xs : List Value}, w.ownsRow n T k v i xs → T ≠ 68 → w'.ownsRow n T k v i xs := fun hr hT => row_still hr fun b hb => by
    obtain ⟨cs, hc⟩ := row_kindT hr hb
    rw [hc]
    exact hk.same _ _ _ hc hT
  exact ⟨hk.same _ _ _ h.b (by decide), h.low, rs h.v (by decide), rs h.f (by decide), rs h.s (by decide), h.ne, hb, Nat.le_trans h.size hk.size, h.base, h.cI, h.vI⟩

set_option maxHeartbeats 2000000 in
theorem ryhas_r (v : Value) (L : List Int) (x : Int) (B : Nat) (w : World) (hIn : Ints w B v L) (hlim : L.length ≤ 1000000) {R : Bool} (hR : decide (x ∈ L) = R) :
    Calls Try.prog 34 #[v, .int .i64 x] w fun e w' => e = .returned (.bool R) ∧ w = w' := by
  have HR := Lib.hid hR
  obtain ⟨a0, c0, rfl⟩ : ∃ a c, v = .slice a L.length c := by obtain ⟨a, c, h, _⟩ := hIn; exact ⟨a, c, h⟩
  obtain ⟨n, hn⟩ : ∃ n, n = L.length := ⟨_, rfl⟩
  rw [← hn] at hIn hlim ⊢
  have HN := Lib.hid hn
  have HIN := Lib.hid hIn
  clear hR hn hIn
  go_enter Try.func34, Try.ntmps34
  go_wp2
  go_loopw [5] (fun s5 wr => ∃ k : Nat, k ≤ n ∧ s5 = .int .i64 k ∧ Hid (x ∉ L.take k) ∧ w = wr) (fun s5 _ => n - (intOf s5).toNat)
  case atStart => exact ⟨0, Nat.zero_le _, rfl, by show _ ∉ _; simp, rfl⟩
  case round =>
    obtain ⟨k, hk, rfl, HK, rfl⟩ := hrel
    by_cases hlt : k < n
    · obtain ⟨b, off, rfl, hb, hc⟩ := (ints_cell HIN.out).2 k hlt
      have k1 : (k : Int) < (n : Int) := by omega
      have k0 : (0 : Int) ≤ (k : Int) := by omega
      obtain ⟨y, hy⟩ : ∃ y, y = L.getD k 0 := ⟨_, rfl⟩
      rw [← hy] at hc
      have HY := Lib.hid hy
      clear hy
      by_cases hxy : y = x
      · have HF : Hid (true = R) := by
          show _ = _
          rw [← HR.out]
          obtain ⟨h1, h2⟩ := idx_first (L := L) (k := k) (x := x) (by have := HN.out; omega) (by rw [← HY.out, hxy]) HK.out
          exact (decide_eq_true h1).symm
        subst hxy
        go_wp2
        go_returns
        exact ⟨ret_bool HF.out, by first | rfl | trivial⟩
      · have HF : Hid (x ∉ L.take (k + 1)) := not_take (by have := HN.out; omega) HK.out (fun e => hxy (HY.out.trans e))
        have hb2 : (y == x) = false := beq_eq_false_iff_ne.2 hxy
        clear hxy
        go_wp2
        go_roundw
        case rel => exact ⟨k + 1, by omega, by go_num, HF.out, by first | rfl | trivial⟩
        case measure => simp [intOf]; omega
    · have hle : (n : Int) ≤ (k : Int) := by omega
      have HF : Hid (false = R) := by
        show _ = _
        rw [← HR.out]
        exact (decide_eq_false (not_first (by have := HN.out; omega) HK.out)).symm
      go_wp2
      go_returns
      exact ⟨ret_bool HF.out, by first | rfl | trivial⟩

theorem info_intR : (Try.prog.info? 3).map (fun i => (i.zero, i.size, i.bytes)) = some (some (.int .i64 0), 1, 8) := by kernel_rfl
theorem info_Vote : (Try.prog.info? 40).map (fun i => (i.zero, i.size, i.bytes)) = some (some (.agg #[.int .i64 0, .int .i64 0, .int .i64 0, .int .i64 0, .bool false, .int .i64 0, .slice none 0 0]), 7, 72) := by kernel_rfl
/-- An append onto an owned row, in a walk: the row behind it is the old one, or a new one. -/
theorem wpList_append_at {P : Program} {w : World} {ops : Array Oper} {rest : List Oper} {o : Oper} {a : Act} {Q : Exit → Act → World → Prop} (hgd : o.guard = none) (s x : Operand) (t tx : TypeId)
    (ho : o.op = .call { callee := .builtin .append, args := #[s, x], argTypes := #[t, tx] })
    (base : Nat) (e : TypeId) (i : TypeInfo) (z : Value) (size bytes : Nat) (ht : P.underlying t = some (.slice e)) (hi : P.info? e = some i) (hz : i.zero = some z)
    (hsize : i.size = size) (hby : i.bytes = bytes) (hzs : z.cells.size = size)
    (v : Value) (n : Nat) (xs : List Value) (hs : a.eval s = v) (hown : w.ownsRow base e size v n xs)
    (xv : Value) (m : Nat) (news : List Value) (hx : a.eval x = xv) (hsrc : Src P size tx xv m news w)
    (h63 : n + m ≤ maxLen) (hbytes : (n + m) * bytes ≤ 140737488355328) (hbase : base ≤ w.heap.size)
    (hK : ∀ v' w', w'.ownsRow base e size v' (n + m) (xs ++ news) → w.grownBy w' v.ownBlock → (∀ b, v'.ownBlock = some b → v.ownBlock = some b ∨ w.heap.size ≤ b) → wpList P ops Q rest (a.put o.dst v') w') : wpList P ops Q (o :: rest) a w := by
  refine wpList_plain hgd fun K hK' => ?_
  obtain ⟨v', w', hrun, h1, h2, h3⟩ := ty_append_at (P := P) base t tx o.type e i z size bytes ht hi hz hsize hby hzs v n xs hown xv m news hsrc h63 hbytes hbase
  unfold Oper.wp
  simp [execOp, ho, resolve, invoke, builtin, hs, hx, hrun, Result.andThen]
  exact hK' _ _ (hK v' w' h1 h2 h3)
/-- .. in a region that draws its order. -/
theorem stepAppAt {P : Program} {ops : Array Oper} {o : Oper} {a : Act} {w : World} {K : Act → World → Prop} {Q : Exit → Act → World → Prop} {E : Prop} (hgd : o.guard = none) (s x : Operand) (t tx : TypeId)
    (ho : o.op = .call { callee := .builtin .append, args := #[s, x], argTypes := #[t, tx] })
    (base : Nat) (e : TypeId) (i : TypeInfo) (z : Value) (size bytes : Nat) (ht : P.underlying t = some (.slice e)) (hi : P.info? e = some i) (hz : i.zero = some z)
    (hsize : i.size = size) (hby : i.bytes = bytes) (hzs : z.cells.size = size)
    (v : Value) (n : Nat) (xs : List Value) (hs : a.eval s = v) (hown : w.ownsRow base e size v n xs)
    (xv : Value) (m : Nat) (news : List Value) (hx : a.eval x = xv) (hsrc : Src P size tx xv m news w)
    (h63 : n + m ≤ maxLen) (hbytes : (n + m) * bytes ≤ 140737488355328) (hbase : base ≤ w.heap.size)
    (hK : ∀ v' w', w'.ownsRow base e size v' (n + m) (xs ++ news) → w.grownBy w' v.ownBlock → (∀ b, v'.ownBlock = some b → v.ownBlock = some b ∨ w.heap.size ≤ b) → K (a.put o.dst v') w') :
    if Region.wanted o (yielded ops a.tmps) = true then Oper.wp P o a w K Q else E := by
  have hw : Region.wanted o (yielded ops a.tmps) = true := by simp [Region.wanted, hgd]
  rw [if_pos hw]
  obtain ⟨v', w', hrun, h1, h2, h3⟩ := ty_append_at (P := P) base t tx o.type e i z size bytes ht hi hz hsize hby hzs v n xs hown xv m news hsrc h63 hbytes hbase
  unfold Oper.wp
  simp [execOp, ho, resolve, invoke, builtin, hs, hx, hrun, Result.andThen]
  exact hK _ _ h1 h2 h3

/-- The reference's count with one more that said yes. -/
def yesD (d : RefV) (x : Int) (R : Bool) : RefV := if R = true then ⟨d.n, d.r, d.k, d.ce, d.cv, d.C, d.V, d.F, d.S ++ [x]⟩ else d
def ryB (d : RefV) (x : Int) : Bool := decide (mostV d.n ≤ (d.F.length : Int)) && decide (0 ≤ x ∧ x < d.n) && !decide (x ∈ d.S)
/-- What a call of Yes leaves. -/
def YesPost (n : Nat) (w0 : World) (X : Nat) (vv fv sv : Value) (d : RefV) (w w' : World) : Prop :=
  ∃ sv', RTal n w0 X vv fv sv' d w' ∧ (∀ b, sv'.ownBlock = some b → sv.ownBlock = some b ∨ w.heap.size ≤ b) ∧ Only (fun b => b = X ∨ sv.ownBlock = some b) w w'
set_option maxRecDepth 100000 in
set_option maxHeartbeats 8000000 in
theorem ryyes_r {n : Nat} {w0 w : World} {X : Nat} {vv fv sv : Value} {d : RefV} (h : RTal n w0 X vv fv sv d w) (h1 : 1 ≤ d.n) (h5 : d.n ≤ 5) (_hlF : d.F.length ≤ 1000) (hlS : d.S.length ≤ 1000) (x : Int) {R : Bool} (hR : ryB d x = R) :
    Calls Try.prog 17 #[.pointer (some ⟨X, 0, none⟩), .int .i64 x] w fun e w' => e = .returned (.bool R) ∧ Hid (YesPost n w0 X vv fv sv (yesD d x R) w w') := by
  obtain ⟨fa, fc, hfe⟩ := own_shape h.f
  obtain ⟨sa, sc, hse⟩ := own_shape h.s
  subst hfe hse
  obtain ⟨W, hW⟩ : ∃ W, W = w := ⟨_, rfl⟩
  obtain ⟨m, hm⟩ : ∃ m, m = mostV d.n := ⟨_, rfl⟩
  obtain ⟨lf, hlf⟩ : ∃ l, l = d.F.length := ⟨_, rfl⟩
  obtain ⟨ls, hls⟩ : ∃ l, l = d.S.length := ⟨_, rfl⟩
  obtain ⟨N, hN⟩ : ∃ N, N = d.n := ⟨_, rfl⟩
  obtain ⟨D, hD⟩ : ∃ D, D = decide (x ∈ d.S) := ⟨_, rfl⟩
  have hRR : R = (decide (m ≤ (lf : Int)) && decide (0 ≤ x ∧ x < N) && !D) := by rw [← hR, hm, hlf, hN, hD]; rfl
  have HMO : Hid (∀ u, Calls Try.prog 13 #[.int .i64 N] u fun e w' => e = .returned (.int .i64 m) ∧ Below u.heap.size u w') := fun u =>
    (rymost_r N u (by omega) (by rw [hN]; exact hm.symm)).mono fun e w' ⟨he, hw⟩ => ⟨he, hw ▸ Below.refl _ _⟩
  have HHA : Hid (∀ u, Below W.heap.size W u → Calls Try.prog 34 #[.slice sa ls sc, .int .i64 x] u fun e w' => e = .returned (.bool D) ∧ Below u.heap.size u w') := fun u hu => by
    rw [hls]
    exact (ryhas_r _ d.S x u.heap.size u (ints_own (rowOn h.s (hW ▸ hu)) (Nat.le_refl _)) (by omega) hD.symm).mono fun e w' ⟨he, hw⟩ => ⟨he, hw ▸ Below.refl _ _⟩
  have FX : Hid (∀ u, Below W.heap.size W u → u.cell? ⟨X, 0, none⟩ = some (.int .i64 N) ∧ u.cell? ⟨X, 6, none⟩ = some (.slice fa lf fc) ∧ u.cell? ⟨X, 7, none⟩ = some (.slice sa ls sc)) := fun u hu => by
    have c := (h.b.on (hW ▸ hu)).cells
    rw [hN, hlf, hls]
    exact ⟨c.1, c.2.2.2.2.2.2.1, c.2.2.2.2.2.2.2⟩
  have HH := Lib.hid h
  have HRR := Lib.hid hRR
  have HNN := Lib.hid hN
  have HWW := Lib.hid hW
  have HLS := Lib.hid hls
  have HLSM := Lib.hid hlS
  have P0 : Below W.heap.size W W.drew := (Below.refl _ _).drew
  obtain ⟨i0, hi, hz0, hz1, hz2⟩ := info_parts info_intR
  rw [← hW]
  clear h hR hRR h1 h5 hlS hm hlf hls hN hD hW
  by_cases g1 : (lf : Int) < m
  · have d1 : decide ((lf : Int) < m) = true := decide_eq_true g1
    obtain rfl : R = false := by rw [HRR.out]; rw [decide_eq_false (by omega)]; rfl
    go_enter Try.func17, Try.ntmps17
    go_wp2_with fail
    refine region_quiet (fun v => Below W.heap.size W v) (by kernel_rfl) (by kernel_rfl) P0 ?_
    repeat (first
      | go_big_quiet_skip
      | (go_big_quiet_want
         (first
          | (refine quiet_run (v := ?_) ?_ ?_; rotate_left; (intro u hu; obtain ⟨c0, c1, c2⟩ := FX.out u hu; go_simp <;> with_reducible rfl); simp only [Act.put, List.setIfInBounds_toArray, List.set_cons_zero, List.set_cons_succ]; go_big_quiet_on)
          | (refine quiet_enter 13 _ ?_ (fun u hu => (HMO.out u).mono fun e u' ⟨he, hb⟩ => ⟨he, hu.trans (hb.mono hu.size)⟩) ?_; (focus (intro u; first | (go_simp; done) | (go_simp; with_reducible rfl))); simp only [Act.put, List.setIfInBounds_toArray, List.set_cons_zero, List.set_cons_succ]; go_big_quiet_on))))
    refine wpQuiet_nil ?_
    intro w4 h4
    clear P0
    go_wp2
    go_returns
    exact ⟨by first | rfl | trivial, _, HH.out.on (HWW.out ▸ h4), fun _ hb => .inl hb, .of (HWW.out ▸ h4)⟩
  have d1 : decide ((lf : Int) < m) = false := decide_eq_false g1
  by_cases g2 : x < 0
  · have d2 : decide (x < 0) = true := decide_eq_true g2
    obtain rfl : R = false := by rw [HRR.out]; rw [decide_eq_false (p := 0 ≤ x ∧ x < N) (by omega)]; simp
    go_enter Try.func17, Try.ntmps17
    go_wp2_with fail
    refine region_quiet (fun v => Below W.heap.size W v) (by kernel_rfl) (by kernel_rfl) P0 ?_
    repeat (first
      | go_big_quiet_skip
      | (go_big_quiet_want
         (first
          | (refine quiet_run (v := ?_) ?_ ?_; rotate_left; (intro u hu; obtain ⟨c0, c1, c2⟩ := FX.out u hu; go_simp <;> with_reducible rfl); simp only [Act.put, List.setIfInBounds_toArray, List.set_cons_zero, List.set_cons_succ]; go_big_quiet_on)
          | (refine quiet_enter 13 _ ?_ (fun u hu => (HMO.out u).mono fun e u' ⟨he, hb⟩ => ⟨he, hu.trans (hb.mono hu.size)⟩) ?_; (focus (intro u; first | (go_simp; done) | (go_simp; with_reducible rfl))); simp only [Act.put, List.setIfInBounds_toArray, List.set_cons_zero, List.set_cons_succ]; go_big_quiet_on))))
    refine wpQuiet_nil ?_
    intro w4 h4
    clear P0
    go_wp2
    go_returns
    exact ⟨by first | rfl | trivial, _, HH.out.on (HWW.out ▸ h4), fun _ hb => .inl hb, .of (HWW.out ▸ h4)⟩
  have d2 : decide (x < 0) = false := decide_eq_false g2
  by_cases g3 : N ≤ x
  · have d3 : decide (N ≤ x) = true := decide_eq_true g3
    obtain rfl : R = false := by rw [HRR.out]; rw [decide_eq_false (p := 0 ≤ x ∧ x < N) (by omega)]; simp
    go_enter Try.func17, Try.ntmps17
    go_wp2_with fail
    refine region_quiet (fun v => Below W.heap.size W v) (by kernel_rfl) (by kernel_rfl) P0 ?_
    repeat (first
      | go_big_quiet_skip
      | (go_big_quiet_want
         (first
          | (refine quiet_run (v := ?_) ?_ ?_; rotate_left; (intro u hu; obtain ⟨c0, c1, c2⟩ := FX.out u hu; go_simp <;> with_reducible rfl); simp only [Act.put, List.setIfInBounds_toArray, List.set_cons_zero, List.set_cons_succ]; go_big_quiet_on)
          | (refine quiet_enter 13 _ ?_ (fun u hu => (HMO.out u).mono fun e u' ⟨he, hb⟩ => ⟨he, hu.trans (hb.mono hu.size)⟩) ?_; (focus (intro u; first | (go_simp; done) | (go_simp; with_reducible rfl))); simp only [Act.put, List.setIfInBounds_toArray, List.set_cons_zero, List.set_cons_succ]; go_big_quiet_on))))
    refine wpQuiet_nil ?_
    intro w4 h4
    clear P0
    go_wp2
    go_returns
    exact ⟨by first | rfl | trivial, _, HH.out.on (HWW.out ▸ h4), fun _ hb => .inl hb, .of (HWW.out ▸ h4)⟩
  have d3 : decide (N ≤ x) = false := decide_eq_false g3
  cases D with
  | true =>
    obtain rfl : R = false := by rw [HRR.out]; simp
    go_enter Try.func17, Try.ntmps17
    go_wp2_with fail
    refine region_quiet (fun v => Below W.heap.size W v) (by kernel_rfl) (by kernel_rfl) P0 ?_
    repeat (first
      | go_big_quiet_skip
      | (go_big_quiet_want
         (first
          | (refine quiet_run (v := ?_) ?_ ?_; rotate_left; (intro u hu; obtain ⟨c0, c1, c2⟩ := FX.out u hu; go_simp <;> with_reducible rfl); simp only [Act.put, List.setIfInBounds_toArray, List.set_cons_zero, List.set_cons_succ]; go_big_quiet_on)
          | (refine quiet_enter 13 _ ?_ (fun u hu => (HMO.out u).mono fun e u' ⟨he, hb⟩ => ⟨he, hu.trans (hb.mono hu.size)⟩) ?_; (focus (intro u; first | (go_simp; done) | (go_simp; with_reducible rfl))); simp only [Act.put, List.setIfInBounds_toArray, List.set_cons_zero, List.set_cons_succ]; go_big_quiet_on)
          | (refine quiet_enter 34 _ ?_ (fun u hu => (HHA.out u hu).mono fun e u' ⟨he, hb⟩ => ⟨he, hu.trans (hb.mono hu.size)⟩) ?_; (focus (intro u; first | (go_simp; done) | (go_simp; with_reducible rfl))); simp only [Act.put, List.setIfInBounds_toArray, List.set_cons_zero, List.set_cons_succ]; go_big_quiet_on))))
    refine wpQuiet_nil ?_
    intro w4 h4
    clear P0
    go_wp2
    go_returns
    exact ⟨by first | rfl | trivial, _, HH.out.on (HWW.out ▸ h4), fun _ hb => .inl hb, .of (HWW.out ▸ h4)⟩
  | false =>
    obtain rfl : R = true := by rw [HRR.out]; rw [decide_eq_true (p := m ≤ (lf : Int)) (by omega), decide_eq_true (p := 0 ≤ x ∧ x < N) (by omega)]; rfl
    go_enter Try.func17, Try.ntmps17
    go_wp2_with fail
    refine region_quiet (fun v => Below W.heap.size W v) (by kernel_rfl) (by kernel_rfl) P0 ?_
    repeat (first
      | go_big_quiet_skip
      | (go_big_quiet_want
         (first
          | (refine quiet_run (v := ?_) ?_ ?_; rotate_left; (intro u hu; obtain ⟨c0, c1, c2⟩ := FX.out u hu; go_simp <;> with_reducible rfl); simp only [Act.put, List.setIfInBounds_toArray, List.set_cons_zero, List.set_cons_succ]; go_big_quiet_on)
          | (refine quiet_enter 13 _ ?_ (fun u hu => (HMO.out u).mono fun e u' ⟨he, hb⟩ => ⟨he, hu.trans (hb.mono hu.size)⟩) ?_; (focus (intro u; first | (go_simp; done) | (go_simp; with_reducible rfl))); simp only [Act.put, List.setIfInBounds_toArray, List.set_cons_zero, List.set_cons_succ]; go_big_quiet_on)
          | (refine quiet_enter 34 _ ?_ (fun u hu => (HHA.out u hu).mono fun e u' ⟨he, hb⟩ => ⟨he, hu.trans (hb.mono hu.size)⟩) ?_; (focus (intro u; first | (go_simp; done) | (go_simp; with_reducible rfl))); simp only [Act.put, List.setIfInBounds_toArray, List.set_cons_zero, List.set_cons_succ]; go_big_quiet_on))))
    refine wpQuiet_nil ?_
    intro w4 h4
    clear P0
    have H4 := Lib.hid (HH.out.on (HWW.out ▸ h4))
    have HB4 := Lib.hid h4
    obtain ⟨_, _, _, _, _, _, _, q7⟩ := H4.out.b.cells
    rw [← HLS.out] at q7
    have z7 := H4.out.b.free 7
    have hs4 := H4.out.s
    rw [← HLS.out] at hs4
    have HS4 := Lib.hid hs4
    clear h4 hs4
    go_wp2_with (at_builtin; refine wpList_append_at rfl (.tmp 40) (.tmp 42) 24 24 rfl n 3 i0 (.int .i64 0) 1 8 Try.underlying24 hi hz0 hz1 hz2 rfl _ _ _ rfl (HS4.out.alloc _) _ 1 (intCells [x]) rfl (csrc1 w4 x) ?c3 ?c4 ?c5 ?_)
    case c3 => have := HLS.out; have := HLSM.out; unfold maxLen; omega
    case c4 => have := HLS.out; have := HLSM.out; omega
    case c5 => simp; have := H4.out.size; omega
    intro v' w5 hown hgrow hfr
    obtain ⟨va', vc', hve⟩ := own_shape hown
    subst hve
    have hb5 : Below w4.heap.size w4 (w4.alloc (.cells #[.int .i64 x] 3)) := (Below.refl _ _).alloc (Nat.le_refl _) _
    have b5 := H4.out.b.on hb5
    have hXs : (Value.slice sa ls sc).ownBlock ≠ some X := fun e => by
      obtain ⟨cs, hc⟩ := row_kindT HS4.out e
      rw [show w4.heap[X]? = _ from H4.out.b] at hc
      simp only [Option.some.injEq, Obj.cells.injEq] at hc
      exact absurd hc.2.1 (by decide)
    have x5 : RTB w5 X vv (.slice fa d.F.length fc) (.slice sa d.S.length sc) d := (hgrow.block X b5.lt (fun e => hXs e.symm)).trans b5
    have fl5 : Only (fun b => (Value.slice sa ls sc).ownBlock = some b) w4 w5 := (Only.of hb5).then ⟨hgrow.os, hgrow.tape, hgrow.output, hgrow.size, fun k hk hne => hgrow.block k hk (fun e => hne e.symm)⟩ (fun _ _ h => h)
    obtain ⟨w6, hw6⟩ : ∃ u, u = w5.setCell ⟨X, 7, none⟩ (.slice va' (ls + 1) vc') := ⟨_, rfl⟩
    have o6 : Only (· = X) w5 w6 := by rw [hw6]; exact Only.set X 7 w5 _
    have x6 : RTB w6 X vv (.slice fa d.F.length fc) (.slice va' (ls + 1) vc') (yesD d x true) := by
      show _ = _
      rw [hw6, heap_setCell_same _ _ _ _ _ _ x5]
      rfl
    have rowK : ∀ {T : TypeId} {k i : Nat} {v : Value} {xs : List Value}, w4.ownsRow n T k v i xs → T ≠ 38 → (∀ b, v.ownBlock = some b → (Value.slice sa ls sc).ownBlock ≠ some b) → w6.ownsRow n T k v i xs := fun hr hT hap => row_still hr fun b hb => by
      obtain ⟨cs, hc⟩ := row_kindT hr hb
      have hbX : b ≠ X := fun e => by
        rw [e, show w4.heap[X]? = _ from H4.out.b] at hc
        simp only [Option.some.injEq, Obj.cells.injEq] at hc
        exact hT hc.2.1.symm
      have hb4 : b < w4.heap.size := lt_of_block hc
      exact (o6.block b (Nat.lt_of_lt_of_le hb4 fl5.size) hbX).trans (fl5.block b hb4 (hap b hb))
    have hvs : ∀ b, vv.ownBlock = some b → (Value.slice sa ls sc).ownBlock ≠ some b := fun b hb e => by
      obtain ⟨cs, hc⟩ := row_kindT H4.out.v hb
      obtain ⟨cs', hc'⟩ := row_kindT HS4.out e
      rw [hc] at hc'
      simp only [Option.some.injEq, Obj.cells.injEq] at hc'
      exact absurd hc'.2.1 (by decide)
    have hne := H4.out.ne
    rw [← HLS.out] at hne
    have s6 : w6.ownsRow n 3 1 (.slice va' (ls + 1) vc') (d.S ++ [x]).length (intCells (d.S ++ [x])) := by
      have e : intCells d.S ++ intCells [x] = intCells (d.S ++ [x]) := cells_app _ _
      rw [← e, List.length_append, ← HLS.out]
      refine row_still hown fun b hb => o6.block b ?_ ?_
      · obtain ⟨cs, hc⟩ := row_kindT hown hb
        exact lt_of_block hc
      · intro hbX
        obtain ⟨cs, hc⟩ := row_kindT hown hb
        rw [hbX, show w5.heap[X]? = _ from x5] at hc
        simp only [Option.some.injEq, Obj.cells.injEq] at hc
        exact absurd hc.2.1 (by decide)
    have bel6 : Below n w0 w6 := o6.below (fl5.below H4.out.bel (fun b hb => (HS4.out.lt b hb).1) H4.out.size) (fun b hb => by subst hb; exact H4.out.low) (Nat.le_trans H4.out.size fl5.size)
    have RT6 : Hid (RTal n w0 X vv (.slice fa d.F.length fc) (.slice va' (ls + 1) vc') (yesD d x true) w6) := by
      refine ⟨x6, H4.out.low, rowK H4.out.v (by decide) hvs, rowK H4.out.f (by decide) hne, s6, fun b hb e => ?_, bel6, Nat.le_trans (Nat.le_trans H4.out.size fl5.size) o6.size, H4.out.base, H4.out.cI, H4.out.vI⟩
      rcases hfr b e with h | h
      · exact hne b hb h
      · obtain ⟨cs, hc⟩ := row_kindT H4.out.f hb
        have := lt_of_block hc
        try simp at h
        omega
    have OF : Hid (Only (fun b => b = X ∨ (Value.slice sa d.S.length sc).ownBlock = some b) w w6) := by
      rw [← HLS.out]
      exact ((Only.of (HWW.out ▸ HB4.out)).then fl5 (fun _ _ h => .inr h)).then o6 (fun _ _ h => .inl h)
    have FR : Hid (∀ b, (Value.slice va' (ls + 1) vc').ownBlock = some b → (Value.slice sa d.S.length sc).ownBlock = some b ∨ w.heap.size ≤ b) := fun b hb => by
      rw [← HLS.out]
      rcases hfr b hb with h | h
      · exact .inl h
      · refine .inr ?_
        have := HB4.out.size
        rw [HWW.out] at this
        try simp at h
        omega
    have y7 := x5.cells.2.2.2.2.2.2.2
    have zz7 := x5.free 7
    have HW6 := Lib.hid hw6
    clear hown hgrow hfr hb5 b5 hXs x5 fl5 hw6 o6 x6 rowK hvs hne s6 bel6 q7 z7
    go_wp2
    go_returns
    rw [← HW6.out]
    have hww := HWW.out
    subst hww
    exact ⟨by first | rfl | trivial, _, RT6.out, FR.out, OF.out⟩

def wat (l : List VoteW) (i : Nat) : VoteW := l.getD i ⟨VoteV.zero, .slice none 0 0⟩
def bestI (l : List VoteW) : Nat → Int
  | 0 => -1
  | i + 1 => if (wat l i).v.has = true ∧ (bestI l i < 0 ∨ 0 < cmpV (wat l i).v.ar (wat l i).v.an (wat l (bestI l i).toNat).v.ar (wat l (bestI l i).toNat).v.an) then (i : Int) else bestI l i
theorem best_lt (l : List VoteW) : ∀ i, -1 ≤ bestI l i ∧ bestI l i < (i : Int)
  | 0 => by unfold bestI; omega
  | i + 1 => by
    have h := best_lt l i
    unfold bestI
    split <;> omega
/-- What is proposed by the reference: its epoch, where its nodes lie. -/
def bestE (d : RefV) : Int := if bestI d.V d.V.length < 0 then d.ce else (wat d.V (bestI d.V d.V.length).toNat).v.ce
def bestC (d : RefV) : Value := if bestI d.V d.V.length < 0 then d.cv else (wat d.V (bestI d.V d.V.length).toNat).c
theorem vote_cells {w : World} {n : Nat} {g cap : Nat} {l : List VoteW} (h : w.ownsRow n 40 7 (.slice (some ⟨g, 0, none⟩) l.length cap) l.length (vcells l)) {k : Nat} (hk : k < l.length) :
    w.cell? ⟨g, k * 7 + 2, none⟩ = some (.int .i64 (wat l k).v.ar) ∧ w.cell? ⟨g, k * 7 + 3, none⟩ = some (.int .i64 (wat l k).v.an) ∧ w.cell? ⟨g, k * 7 + 4, none⟩ = some (.bool (wat l k).v.has) ∧ w.cell? ⟨g, k * 7 + 5, none⟩ = some (.int .i64 (wat l k).v.ce) ∧ w.cell? ⟨g, k * 7 + 6, none⟩ = some (wat l k).c := by
  have e : wat l k = l[k] := by unfold wat; simp [hk]
  have c : ∀ j (hj : j < 7) u, (vcell l[k])[j]? = some u → w.cell? ⟨g, k * 7 + j, none⟩ = some u := fun j hj u hu => by
    have := h.cells (g := g) rfl (k * 7 + j) u ((vcells_get l k hk j hj).trans hu)
    rwa [Addr.add_lit, Nat.zero_add] at this
  rw [e]
  exact ⟨c 2 (by omega) _ rfl, c 3 (by omega) _ rfl, c 4 (by omega) _ rfl, c 5 (by omega) _ rfl, c 6 (by omega) _ rfl⟩
set_option maxRecDepth 100000 in
set_option maxHeartbeats 8000000 in
theorem rychain_r {n : Nat} {w0 w : World} {X : Nat} {vv fv sv : Value} {d : RefV} (h : RTal n w0 X vv fv sv d w) (hl : d.V.length ≤ 1000) {ce : Int} {ca : Option Addr} {cl cc : Nat} (hE : bestE d = ce) (hC : bestC d = .slice ca cl cc) (hD : ∃ a l c, d.cv = .slice a l c) :
    Calls Try.prog 22 #[.pointer (some ⟨X, 0, none⟩)] w fun e w' => e = .returned (.agg #[.int .i64 ce, .slice ca cl cc]) ∧ Below w.heap.size w w' := by
  obtain ⟨lv, hlv⟩ : ∃ l, l = d.V.length := ⟨_, rfl⟩
  obtain ⟨va, vc, hve⟩ := own_shape h.v
  subst hve
  have HH := Lib.hid h
  have HLV := Lib.hid hlv
  have HE := Lib.hid hE
  have HC := Lib.hid hC
  have hr0 : ChT (w.alloc (.cells #[.int .i64 0, .slice none 0 0] 26)) w.heap.size 0 (.slice none 0 0) := ChT.fresh w _ _
  obtain ⟨W, hW⟩ : ∃ W, W = w.alloc (.cells #[.int .i64 0, .slice none 0 0] 26) := ⟨_, rfl⟩
  rw [← hW] at hr0
  have hb0 : Below w.heap.size w W := by rw [hW]; exact (Below.refl _ w).alloc (Nat.le_refl _) _
  have HR0 := Lib.hid hr0
  have HB0 := Lib.hid hb0
  have HWQ := Lib.hid hW
  have hl2 : lv ≤ 1000 := by omega
  obtain ⟨da, dl, dc, hdv⟩ := hD
  have HDV := Lib.hid hdv
  clear h hlv hE hC hr0 hW hb0 hdv hl
  go_enter Try.func22, Try.ntmps22
  go_wp2_with fail
  rw [← HWQ.out]
  go_loopw [3, 4] (fun s3 s4 wr => ∃ (i : Nat) (b : Int), s3 = .int .i64 b ∧ s4 = .int .i64 i ∧ i ≤ lv ∧ Hid (bestI d.V i = b) ∧ Hid (Below W.heap.size W wr)) (fun _ s4 _ => lv - (intOf s4).toNat)
  case atStart => exact ⟨0, -1, rfl, rfl, Nat.zero_le _, rfl, Below.refl _ _⟩
  case round =>
    obtain ⟨i, b, rfl, rfl, hi, HB, HWB⟩ := hrel
    have hrt : RTal n w0 X (.slice va d.V.length vc) fv sv d wr := HH.out.on (HB0.out.trans (HWB.out.mono HB0.out.size))
    have HRT := Lib.hid hrt
    have hbl := best_lt d.V i
    rw [HB.out] at hbl
    obtain ⟨_, _, _, x3, x4, x5, _, _⟩ := hrt.b.cells
    rw [← HLV.out] at x5
    rw [HDV.out] at x4
    by_cases hlt : i < lv
    · have hne : va ≠ none := fun e => by
        have hr := hrt.v.2
        rw [e] at hr
        rcases hr with ⟨e1, _⟩ | ⟨g, cap, cur, e1, _⟩
        · simp only [Value.slice.injEq] at e1
          have := HLV.out
          omega
        · simp at e1
      obtain ⟨g, rfl⟩ : ∃ g, va = some ⟨g, 0, none⟩ := by
        rcases hrt.v.2 with ⟨e1, _⟩ | ⟨g, cap, cur, e1, _⟩
        · simp only [Value.slice.injEq] at e1
          exact absurd e1.1 hne
        · simp only [Value.slice.injEq] at e1
          exact ⟨g, e1.1⟩
      have hil : i < d.V.length := by have := HLV.out; omega
      have FX : Hid (∀ u, Below wr.heap.size wr u → (u.cell? ⟨X, 5, none⟩ = some (.slice (some ⟨g, 0, none⟩) lv vc)) ∧ (u.cell? ⟨g, i * 7 + 2, none⟩ = some (.int .i64 (wat d.V i).v.ar) ∧ u.cell? ⟨g, i * 7 + 3, none⟩ = some (.int .i64 (wat d.V i).v.an) ∧ u.cell? ⟨g, i * 7 + 4, none⟩ = some (.bool (wat d.V i).v.has)) ∧ (∀ bn : Nat, b = (bn : Int) → u.cell? ⟨g, bn * 7 + 2, none⟩ = some (.int .i64 (wat d.V bn).v.ar) ∧ u.cell? ⟨g, bn * 7 + 3, none⟩ = some (.int .i64 (wat d.V bn).v.an))) := fun u hu => by
        have hu' := HRT.out.on hu
        have c5 := hu'.b.cells.2.2.2.2.2.1
        rw [← HLV.out] at c5
        have vc1 := vote_cells hu'.v hil
        exact ⟨c5, ⟨vc1.1, vc1.2.1, vc1.2.2.1⟩, fun bn hbn => ⟨(vote_cells hu'.v (k := bn) (by omega)).1, (vote_cells hu'.v (k := bn) (by omega)).2.1⟩⟩
      have HN : Hid (∀ q : Prop, q = ((wat d.V i).v.has = true ∧ (b < 0 ∨ 0 < cmpV (wat d.V i).v.ar (wat d.V i).v.an (wat d.V b.toNat).v.ar (wat d.V b.toNat).v.an)) → (q → bestI d.V (i + 1) = (i : Int)) ∧ (¬ q → bestI d.V (i + 1) = b)) := fun q hq => by
        refine ⟨fun hh => ?_, fun hh => ?_⟩
        · rw [bestI, HB.out, if_pos (by rw [← hq]; exact hh)]
        · rw [bestI, HB.out, if_neg (by rw [← hq]; exact hh)]
      have P0 : Hid (Below wr.heap.size wr wr.drew) := (Below.refl _ _).drew
      generalize hvi : (wat d.V i).v = vi at *
      obtain ⟨pr, pn, ar, an, has, vce, vC⟩ := vi
      simp only at FX HN
      have il : (i : Int) < (lv : Int) := by omega
      clear hrt x3 x4 hne hil hvi HRT
      cases has with
      | false =>
        have hb1 : Hid (bestI d.V (i + 1) = b) := (HN.out _ rfl).2 (by simp)
        clear HN
        go_wp2_with fail
        refine region_quiet (fun v => Below wr.heap.size wr v) (by kernel_rfl) (by kernel_rfl) P0.out ?_
        repeat (first
          | go_big_quiet_skip
          | (go_big_quiet_want
             (first
              | (refine quiet_run (v := ?_) ?_ ?_; rotate_left; (intro u hu; obtain ⟨z5, ⟨z2, z3, z4⟩, _⟩ := FX.out u hu; go_simp <;> with_reducible rfl); simp only [Act.put, List.setIfInBounds_toArray, List.set_cons_zero, List.set_cons_succ]; go_big_quiet_on)
        )))
        refine wpQuiet_nil ?_
        intro w4 h4
        go_wp2_with fail
        go_roundw
        case rel => exact ⟨i + 1, b, rfl, by go_num, by omega, hb1.out, HWB.out.trans (h4.mono HWB.out.size)⟩
        case measure => simp [intOf]; omega
      | true =>
        by_cases hbn : b < 0
        · have hb1 : Hid (bestI d.V (i + 1) = (i : Int)) := (HN.out _ rfl).1 ⟨rfl, .inl hbn⟩
          obtain rfl : b = -1 := by omega
          have d2 : decide ((-1 : Int) < 0) = true := by decide
          clear HN
          go_wp2_with fail
          refine region_quiet (fun v => Below wr.heap.size wr v) (by kernel_rfl) (by kernel_rfl) P0.out ?_
          repeat (first
            | go_big_quiet_skip
            | (go_big_quiet_want
               (first
                | (refine quiet_run (v := ?_) ?_ ?_; rotate_left; (intro u hu; obtain ⟨z5, ⟨z2, z3, z4⟩, _⟩ := FX.out u hu; go_simp <;> with_reducible rfl); simp only [Act.put, List.setIfInBounds_toArray, List.set_cons_zero, List.set_cons_succ]; go_big_quiet_on)
          )))
          refine wpQuiet_nil ?_
          intro w4 h4
          go_wp2_with fail
          go_roundw
          case rel => exact ⟨i + 1, (i : Int), rfl, by go_num, by omega, hb1.out, HWB.out.trans (h4.mono HWB.out.size)⟩
          case measure => simp [intOf]; omega
        · obtain ⟨bn, rfl⟩ : ∃ bn : Nat, b = (bn : Int) := ⟨b.toNat, by omega⟩
          obtain ⟨c, hc⟩ : ∃ c, c = cmpV ar an (wat d.V bn).v.ar (wat d.V bn).v.an := ⟨_, rfl⟩
          have HCM : Hid (∀ u, Calls Try.prog 37 #[.agg #[.int .i64 ar, .int .i64 an], .agg #[.int .i64 (wat d.V bn).v.ar, .int .i64 (wat d.V bn).v.an]] u fun e w' => e = .returned (.int .i64 c) ∧ Below u.heap.size u w') := fun u => rvcmp_r _ _ _ _ u hc.symm
          have FX2 : Hid (∀ u, Below wr.heap.size wr u → (u.cell? ⟨X, 5, none⟩ = some (.slice (some ⟨g, 0, none⟩) lv vc)) ∧ (u.cell? ⟨g, i * 7 + 2, none⟩ = some (.int .i64 ar) ∧ u.cell? ⟨g, i * 7 + 3, none⟩ = some (.int .i64 an) ∧ u.cell? ⟨g, i * 7 + 4, none⟩ = some (.bool true)) ∧ u.cell? ⟨g, bn * 7 + 2, none⟩ = some (.int .i64 (wat d.V bn).v.ar) ∧ u.cell? ⟨g, bn * 7 + 3, none⟩ = some (.int .i64 (wat d.V bn).v.an)) := fun u hu => ⟨(FX.out u hu).1, (FX.out u hu).2.1, (FX.out u hu).2.2 bn rfl⟩
          have bl : (bn : Int) < (lv : Int) := by omega
          have d2 : decide ((bn : Int) < 0) = false := decide_eq_false (by omega)
          have HCC : Hid (c = cmpV ar an (wat d.V (bn : Int).toNat).v.ar (wat d.V (bn : Int).toNat).v.an) := hc
          clear hc FX
          by_cases h0 : 0 < c
          · have hb1 : Hid (bestI d.V (i + 1) = (i : Int)) := (HN.out _ rfl).1 ⟨rfl, .inr (by rw [← HCC.out]; exact h0)⟩
            clear HN
            go_wp2_with fail
            refine region_quiet (fun v => Below wr.heap.size wr v) (by kernel_rfl) (by kernel_rfl) P0.out ?_
            repeat (first
              | go_big_quiet_skip
              | (go_big_quiet_want
                 (first
                  | (refine quiet_run (v := ?_) ?_ ?_; rotate_left; (intro u hu; obtain ⟨z5, ⟨z2, z3, z4⟩, z6, z7⟩ := FX2.out u hu; go_simp <;> with_reducible rfl); simp only [Act.put, List.setIfInBounds_toArray, List.set_cons_zero, List.set_cons_succ]; go_big_quiet_on)
                  | (refine quiet_enter 37 _ ?_ (fun u hu => (HCM.out u).mono fun e u' ⟨he, hb⟩ => ⟨he, hu.trans (hb.mono hu.size)⟩) ?_; (focus (intro u; first | (go_simp; done) | (go_simp; with_reducible rfl))); simp only [Act.put, List.setIfInBounds_toArray, List.set_cons_zero, List.set_cons_succ]; go_big_quiet_on))))
            refine wpQuiet_nil ?_
            intro w4 h4
            go_wp2_with fail
            go_roundw
            case rel => exact ⟨i + 1, (i : Int), rfl, by go_num, by omega, hb1.out, HWB.out.trans (h4.mono HWB.out.size)⟩
            case measure => simp [intOf]; omega
          · have hb1 : Hid (bestI d.V (i + 1) = (bn : Int)) := (HN.out _ rfl).2 (by
              rintro ⟨_, hh | hh⟩
              · omega
              · rw [← HCC.out] at hh
                exact h0 hh)
            clear HN
            go_wp2_with fail
            refine region_quiet (fun v => Below wr.heap.size wr v) (by kernel_rfl) (by kernel_rfl) P0.out ?_
            repeat (first
              | go_big_quiet_skip
              | (go_big_quiet_want
                 (first
                  | (refine quiet_run (v := ?_) ?_ ?_; rotate_left; (intro u hu; obtain ⟨z5, ⟨z2, z3, z4⟩, z6, z7⟩ := FX2.out u hu; go_simp <;> with_reducible rfl); simp only [Act.put, List.setIfInBounds_toArray, List.set_cons_zero, List.set_cons_succ]; go_big_quiet_on)
                  | (refine quiet_enter 37 _ ?_ (fun u hu => (HCM.out u).mono fun e u' ⟨he, hb⟩ => ⟨he, hu.trans (hb.mono hu.size)⟩) ?_; (focus (intro u; first | (go_simp; done) | (go_simp; with_reducible rfl))); simp only [Act.put, List.setIfInBounds_toArray, List.set_cons_zero, List.set_cons_succ]; go_big_quiet_on))))
            refine wpQuiet_nil ?_
            intro w4 h4
            go_wp2_with fail
            go_roundw
            case rel => exact ⟨i + 1, (bn : Int), rfl, by go_num, by omega, hb1.out, HWB.out.trans (h4.mono HWB.out.size)⟩
            case measure => simp [intOf]; omega
    · obtain rfl : i = lv := by omega
      have il : ¬ ((i : Int) < (i : Int)) := by omega
      have hrw := HR0.out.keep HWB.out HR0.out.lt
      have HRW := Lib.hid hrw
      obtain ⟨f0, f1, f2, f3⟩ := hrw.cells
      have hbw : Below w.heap.size w wr := HB0.out.trans (HWB.out.mono HB0.out.size)
      have HBW := Lib.hid hbw
      by_cases hbn : b < 0
      · have e1 : d.ce = ce := by rw [← HE.out]; unfold bestE; rw [← HLV.out, HB.out, if_pos hbn]
        have e2 : Value.slice da dl dc = .slice ca cl cc := by rw [← HC.out, ← HDV.out]; unfold bestC; rw [← HLV.out, HB.out, if_pos hbn]
        rw [e1] at x3
        rw [e2] at x4
        clear hrt e1 e2 hrw hbw
        go_wp2
        obtain ⟨k1, k2⟩ := HRW.out.stored (ep' := ce) (v' := .slice ca cl cc)
        obtain ⟨e0, e1, _, _⟩ := k1.cells
        unfold chW at e0 e1
        exact bodyPost_ret (v := .agg #[.int .i64 ce, .slice ca cl cc]) (by simp [results, Try.results22, go_sem, e0, e1]) rfl ⟨rfl, k2.below HBW.out (fun x hx => by omega) HBW.out.size⟩
      · obtain ⟨bn, rfl⟩ : ∃ bn : Nat, b = (bn : Int) := ⟨b.toNat, by omega⟩
        have hbl2 : bn < d.V.length := by have := HLV.out; omega
        obtain ⟨g, rfl⟩ : ∃ g, va = some ⟨g, 0, none⟩ := by
          rcases hrt.v.2 with ⟨e1, _⟩ | ⟨g, cap, cur, e1, _⟩
          · simp only [Value.slice.injEq] at e1
            omega
          · simp only [Value.slice.injEq] at e1
            exact ⟨g, e1.1⟩
        obtain ⟨_, _, _, y5, y6⟩ := vote_cells hrt.v hbl2
        have e1 : (wat d.V bn).v.ce = ce := by rw [← HE.out]; unfold bestE; rw [← HLV.out, HB.out, if_neg hbn]; rfl
        have e2 : (wat d.V bn).c = .slice ca cl cc := by rw [← HC.out]; unfold bestC; rw [← HLV.out, HB.out, if_neg hbn]; rfl
        rw [e1] at y5
        rw [e2] at y6
        have bl : (bn : Int) < (i : Int) := by omega
        have b0 : ¬ ((bn : Int) < 0) := by omega
        clear hrt e1 e2 hrw hbw x3 x4 hbl2
        go_wp2
        obtain ⟨k1, k2⟩ := HRW.out.stored (ep' := ce) (v' := .slice ca cl cc)
        obtain ⟨e0, e1, _, _⟩ := k1.cells
        unfold chW at e0 e1
        exact bodyPost_ret (v := .agg #[.int .i64 ce, .slice ca cl cc]) (by simp [results, Try.results22, go_sem, e0, e1]) rfl ⟨rfl, k2.below HBW.out (fun x hx => by omega) HBW.out.size⟩

end Go.Proofs.Ytiidmiioegdfaaa
