/-
  A MESSAGE IS TAKEN OUT OF A ROW: slices.Delete; out. No condition but that lengths stay below a million.
-/
import Derived.Test.YtkflkkdfklbfpaaBagW
namespace Go.Proofs.Ytkflkkdfklbfpaa
open Go.RowKit

theorem step_append_in {ops : Array Oper} {op : Oper} {ac : Act} {w : World} {K : Act → World → Prop} {Q : Exit → Act → World → Prop} {E : Prop} (hgd : op.guard = none) (s x : Operand)
    (hop : op.op = .call { callee := .builtin .append, args := #[s, x], argTypes := #[51, 51] })
    (g o n m cap c : Nat) (a : Addr) (pre mid post news : List Value) (hs : ac.eval s = .slice (some ⟨g, o, none⟩) n cap) (hx : ac.eval x = .slice (some a) m c)
    (hg : w.heap[g]? = some (.cells (pre ++ mid ++ post).toArray 58 (0, 0))) (ho : pre.length = o + n * 3) (hmid : mid.length = news.length) (hn : news.length = m * 3) (hroom : n + m ≤ cap)
    (hsrc : ∀ j v, news[j]? = some v → w.cell? (a.add j) = some v) (h1 : ∀ v ∈ news, v.oneCell' = true)
    (hK : ∀ w', w'.heap[g]? = some (.cells (pre ++ news ++ post).toArray 58 (0, 0)) → Only (· = g) w w' → K (ac.put op.dst (.slice (some ⟨g, o, none⟩) (n + m) cap)) w') :
    if Region.wanted op (yielded ops ac.tmps) = true then Oper.wp Try.prog op ac w K Q else E := by
  have hw : Region.wanted op (yielded ops ac.tmps) = true := by simp [Region.wanted, hgd]
  rw [if_pos hw]
  have hrun := run_append_in op.type g o n m cap c a pre mid post news hg ho hmid hn hroom hsrc h1
  unfold Oper.wp
  obtain ⟨w2, hw2⟩ : ∃ w2, w2 = w.setRow g (pre ++ news ++ post).toArray := ⟨_, rfl⟩
  rw [← hw2] at hrun
  simp [execOp, hop, resolve, invoke, builtin, hs, hx, hrun, Result.andThen]
  subst hw2
  exact hK _ (setRow_heap w g _ _ 58 _ hg) ⟨rfl, rfl, rfl, by simp, fun k _ hk => setRow_other w g k _ hk⟩

set_option maxHeartbeats 4000000 in
theorem sldel_any {w : World} {b o sp : Nat} {pre post : List Value} (A C : List MsgV) (x : MsgV) (hh : w.heap[b]? = some (.cells (pre ++ rowC (A ++ x :: C) ++ post).toArray 58 (0, 0))) (ho : pre.length = o) (hlim : A.length + C.length + 1 ≤ 1000000) :
    Calls Try.prog 29 #[.slice (some ⟨b, o, none⟩) (A.length + C.length + 1) (A.length + C.length + 1 + sp), .int .i64 A.length, .int .i64 ((A.length : Int) + 1)] w fun e w' =>
      e = .returned (.slice (some ⟨b, o, none⟩) (A.length + C.length) (A.length + C.length + 1 + sp)) ∧ (∃ zs, zs.length = 3 ∧ w'.heap[b]? = some (.cells (pre ++ rowC (A ++ C) ++ (zs ++ post)).toArray 58 (0, 0))) ∧ Only (· = b) w w' := by
  have hpA : (pre ++ rowC A).length = o + A.length * 3 := by rw [List.length_append, rowC_length, ho]
  have e0 : rowC (A ++ x :: C) = rowC A ++ (msgC x ++ rowC C) := by rw [rowC_append, rowC_cons]
  -- the row as the append sees it: ahead of it, what is written over, what stays
  obtain ⟨mid, last, hml, hmid, hlast⟩ : ∃ mid last, msgC x ++ rowC C = mid ++ last ∧ mid.length = C.length * 3 ∧ last.length = 3 := by
    have hl : (msgC x ++ rowC C).length = 3 + C.length * 3 := by rw [List.length_append, rowC_length]; rfl
    exact ⟨(msgC x ++ rowC C).take (C.length * 3), (msgC x ++ rowC C).drop (C.length * 3), (List.take_append_drop _ _).symm, by rw [List.length_take, hl]; omega, by rw [List.length_drop, hl]; omega⟩
  have hg1 : w.heap[b]? = some (.cells ((pre ++ rowC A) ++ mid ++ (last ++ post)).toArray 58 (0, 0)) := by
    rw [hh, e0, hml]; simp [List.append_assoc]
  have hmid2 : mid.length = (rowC C).length := by rw [hmid, rowC_length]
  obtain ⟨k, hk⟩ : ∃ k, k = A.length := ⟨_, rfl⟩
  obtain ⟨c, hc⟩ : ∃ c, c = C.length := ⟨_, rfl⟩
  rw [← hk, ← hc] at hlim ⊢
  obtain ⟨len, hlen⟩ : ∃ len, len = k + c + 1 := ⟨_, rfl⟩
  rw [← hlen] at hlim ⊢
  have hsrc : ∀ (u : World) (a : Addr), u.heap[b]? = w.heap[b]? → (len + sp = k + 1 ∨ a = ⟨b, o + (k + 1) * 3, none⟩) → ∀ j v, (rowC C)[j]? = some v → u.cell? (a.add j) = some v := by
    intro u a hu ha j v hj
    have hjl : j < c * 3 := by have := (List.getElem?_eq_some_iff.1 hj).1; rwa [rowC_length, ← hc] at this
    rcases ha with ha | rfl
    · omega
    · rw [Addr.add_lit]
      have h2 : u.heap[b]? = some (.cells ((pre ++ rowC A ++ msgC x) ++ rowC C ++ post).toArray 58 (0, 0)) := by rw [hu, hh, e0]; simp [List.append_assoc]
      have := cell_mid h2 j v hj
      rwa [List.length_append, hpA, ← hk, show (msgC x).length = 3 from rfl, show o + k * 3 + 3 = o + (k + 1) * 3 by omega] at this
  obtain ⟨ad, hA, hA2⟩ : ∃ ad : Addr, (if len + sp = k + 1 then some (⟨b, o, none⟩ : Addr) else some ⟨b, o + (k + 1) * 3, none⟩) = some ad ∧ (len + sp = k + 1 ∨ ad = ⟨b, o + (k + 1) * 3, none⟩) := by
    by_cases h : len + sp = k + 1
    · exact ⟨_, if_pos h, .inl h⟩
    · exact ⟨_, if_neg h, .inr rfl⟩
  have HS := Lib.hid (fun u hu => hsrc u ad hu hA2)
  have HP : Hid ((pre ++ rowC A).length = o + k * 3) := by rw [hk]; exact hpA
  have HM := Lib.hid hmid2
  have HG := Lib.hid hg1
  have HC : Hid ((rowC C).length = c * 3) := by rw [hc]; exact rowC_length C
  have HL := Lib.hid hlast
  have HK := Lib.hid hk
  have HKC := Lib.hid hc
  clear hsrc hpA e0 hml hmid hmid2 hg1 hh ho hlast hA2 hk hc
  have i1 : (k : Int) ≤ (k : Int) + 1 := by omega
  have i2 : (k : Int) + 1 ≤ (len : Int) := by omega
  have i3 : (0 : Int) ≤ (k : Int) + 1 := by omega
  have i4 : ((k : Int) + 1).toNat = k + 1 := by omega
  have i5 : (len : Int) ≤ (len : Int) + (sp : Int) := by omega
  have i6 : ((k : Int) == (k : Int) + 1) = false := beq_eq_false_iff_ne.2 (by omega)
  have i7 : len - (k + 1) = c := by omega
  have i8 : (k : Int) ≤ (len : Int) := by omega
  have i9 : (k : Int) ≤ (len : Int) + (sp : Int) := by omega
  have HLEN := Lib.hid hlen
  clear hlen
  go_enter Try.func29, Try.ntmps29
  go_wp2_with fail
  go_region_law (refine step_append_in rfl (.tmp 22) (.tmp 25) rfl b o k c (len + sp) (len + sp - (k + 1)) ad (pre ++ rowC A) mid (last ++ post) (rowC C) (by simp [Act.eval, Act.put]) (by simp [Act.eval, Act.put]) HG.out HP.out HM.out HC.out (by omega) (HS.out _ rfl) (fun v hv => mem_rowC hv) ?_
                 intro w1 hh1 ho1
                 have HH1 := Lib.hid hh1
                 have HO1 := Lib.hid ho1
                 clear hh1 ho1)
  have hh1 : w1.heap[b]? = some (.cells ((pre ++ rowC A ++ rowC C) ++ last ++ post).toArray 58 (0, 0)) := by rw [HH1.out]; simp [List.append_assoc]
  obtain ⟨zs, hz, hcl⟩ := run_clear3 (w := w1) b (o + (k + c) * 3) 1 (pre ++ rowC A ++ rowC C) last post (by omega) hh1 (by rw [List.length_append, HP.out, HC.out]; omega) HL.out
  have HZ := Lib.hid hz
  have H2 : Hid (w1.heap[b]? = some (.cells ((pre ++ rowC A ++ rowC C) ++ last ++ post).toArray 58 (0, 0))) := hh1
  have j1 : ¬ (len + sp = k + c) := by have := HLEN.out; omega
  have j2 : len - (k + c) = 1 := by have := HLEN.out; omega
  have j3 : (k : Int) + (c : Int) ≤ (len : Int) := by have := HLEN.out; omega
  have j4 : ((k : Int) + (c : Int)).toNat = k + c := by omega
  clear hz hh1 i1 i2 i3 i4 i6 i7 hA HH1
  go_wp2
  go_returns
  exact ⟨rfl, ⟨zs, HZ.out, by rw [setRow_heap w1 b _ _ 58 _ H2.out, rowC_append]; simp [List.append_assoc]⟩, ((Only.drewN _ _ 1).then HO1.out fun x _ hx => hx).then ⟨rfl, rfl, rfl, by simp, fun j _ hj => setRow_other w1 b j _ hj⟩ fun x _ hx => hx⟩

theorem step_copy3 {ops : Array Oper} {op : Oper} {ac : Act} {w : World} {K : Act → World → Prop} {Q : Exit → Act → World → Prop} {E : Prop} (hgd : op.guard = none) (s x : Operand)
    (hop : op.op = .call { callee := .builtin .copy, args := #[s, x], argTypes := #[51, 51] })
    (g o dLen dCap : Nat) (a : Addr) (sLen sCap : Nat) (pre mid post news : List Value) (hs : ac.eval s = .slice (some ⟨g, o, none⟩) dLen dCap) (hx : ac.eval x = .slice (some a) sLen sCap)
    (hg : w.heap[g]? = some (.cells (pre ++ mid ++ post).toArray 58 (0, 0))) (ho : pre.length = o) (hmid : mid.length = news.length) (hn : news.length = Nat.min sLen dLen * 3)
    (hsrc : ∀ j v, news[j]? = some v → w.cell? (a.add j) = some v) (h1 : ∀ v ∈ news, v.oneCell' = true)
    (hK : ∀ z w', w'.heap[g]? = some (.cells (pre ++ news ++ post).toArray 58 (0, 0)) → Only (· = g) w w' → K (ac.put op.dst z) w') :
    if Region.wanted op (yielded ops ac.tmps) = true then Oper.wp Try.prog op ac w K Q else E := by
  have hw : Region.wanted op (yielded ops ac.tmps) = true := by simp [Region.wanted, hgd]
  rw [if_pos hw]
  have hrun := run_copy3 op.type g o dLen dCap a sLen sCap _ news hg hn hsrc (by rw [List.size_toArray, List.length_append, List.length_append, ho]; omega) h1
  have e1 := put_mid pre mid news post hmid
  rw [ho] at e1
  rw [e1] at hrun
  obtain ⟨w2, hw2⟩ : ∃ w2, w2 = w.setRow g (pre ++ news ++ post).toArray := ⟨_, rfl⟩
  rw [← hw2] at hrun
  unfold Oper.wp
  simp [execOp, hop, resolve, invoke, builtin, hs, hx, hrun, Result.andThen]
  subst hw2
  exact hK _ _ (setRow_heap w g _ _ 58 _ hg) ⟨rfl, rfl, rfl, by simp, fun k _ hk => setRow_other w g k _ hk⟩

/-- The row is stored into the bag, and new blocks are written. -/
theorem BR.fin {w w1 w2 w' : World} {n g : Nat} {v v' : Value} {L L' : List MsgV} (H : Bg w n g v L) (hb : Below w.heap.size w w1) (ho2 : Only (rblk v) w1 w2) (hr : Rw w2 n v' L') (hr2 : ∀ x, rblk v' x → x < w.heap.size)
    (ho3 : Only (fun x => w.heap.size ≤ x) (w2.setCell ⟨g, 0, none⟩ v') w') : BR n g v L' w w' := by
  have hg2 : w2.heap[g]? = some (.cells #[v] 55 (0, 0)) := (ho2.block g (Nat.lt_of_lt_of_le H.lt hb.size) H.ne).trans (H.on hb).blk
  have hs := Bg.set hg2 hr H.low
  refine ⟨v', hs.keep ho3 fun x hx hle => ?_, (((Only.of hb).then ho2 fun x _ hx => .inr hx).then (Only.set g 0 _ _) fun x _ hx => .inl hx).then ho3 fun x hx hle => by omega⟩
  rcases hx with rfl | hx
  · have := H.lt; omega
  · have := hr2 x hx; omega
/-- Three cells of a block above are written. -/
theorem Only.set3 {w : World} {B r : Nat} (hr : B ≤ r) (x y z : Value) : Only (fun k => B ≤ k) w (((w.setCell ⟨r, 0, none⟩ x).setCell ⟨r, 1, none⟩ y).setCell ⟨r, 2, none⟩ z) :=
  (((Only.set r 0 w x).trans (Only.set r 1 _ y)).trans (Only.set r 2 _ z)).mono fun k _ hk => by rw [hk]; exact hr

theorem set3_blk {w : World} {r : Nat} {a b c : Value} {T : TypeId} (h : w.heap[r]? = some (.cells #[a, b, c] T (0, 0))) (x y z : Value) :
    ((((w.setCell ⟨r, 0, none⟩ x).setCell ⟨r, 1, none⟩ y).setCell ⟨r, 2, none⟩ z).cell? ⟨r, 0, none⟩ = some x ∧ (((w.setCell ⟨r, 0, none⟩ x).setCell ⟨r, 1, none⟩ y).setCell ⟨r, 2, none⟩ z).cell? ⟨r, 1, none⟩ = some y ∧ (((w.setCell ⟨r, 0, none⟩ x).setCell ⟨r, 1, none⟩ y).setCell ⟨r, 2, none⟩ z).cell? ⟨r, 2, none⟩ = some z) := by
  have h1 := heap_setCell_same _ _ 0 _ _ x h
  have h2 := heap_setCell_same _ _ 1 _ _ y h1
  have h3 := heap_setCell_same _ _ 2 _ _ z h2
  refine ⟨?_, ?_, ?_⟩ <;> simp [World.cell?, h3]

set_option maxHeartbeats 4000000 in
/-- A message of the row's second half is taken out. -/
theorem rwout_hi {w : World} {n g : Nat} {v : Value} {A C : List MsgV} {x : MsgV} (H : Bg w n g v (A ++ x :: C)) (hlim : A.length + C.length + 1 ≤ 1000000) (hk : ¬ A.length < (A.length + C.length + 1) / 2) :
    Calls Try.prog 25 #[.pointer (some ⟨g, 0, none⟩), .int .i64 A.length] w fun e w' => e = .returned (.agg (msgC x).toArray) ∧ BR n g v (A ++ C) w w' := by
  obtain ⟨c0, z0⟩ := H.cells
  have hgl := H.lt
  have HH := Lib.hid H
  rcases H.row with ⟨rfl, h0⟩ | ⟨b, o, sp, pre, post, rfl, hb, hh, h1, h2, hm⟩
  · simp at h0
  have hbl := lt_of_block hh
  have hlen : (A ++ x :: C).length = A.length + C.length + 1 := by simp; omega
  have hgb : g ≠ b := fun e => by subst e; exact H.ne ⟨_, _, _, rfl⟩
  have hc := row_cells hh A.length (by rw [hlen]; omega)
  rw [show mAt (A ++ x :: C) A.length = x by simp [mAt, List.getD], h1] at hc
  obtain ⟨q0, q1, q2⟩ := hc
  rw [hlen] at c0 hm HH ⊢
  have HD : Hid (∀ u, u.heap[b]? = w.heap[b]? → Calls Try.prog 29 #[.slice (some ⟨b, o, none⟩) (A.length + C.length + 1) (A.length + C.length + 1 + sp), .int .i64 A.length, .int .i64 ((A.length : Int) + 1)] u fun e w' =>
      e = .returned (.slice (some ⟨b, o, none⟩) (A.length + C.length) (A.length + C.length + 1 + sp)) ∧ (∃ zs, zs.length = 3 ∧ w'.heap[b]? = some (.cells (pre ++ rowC (A ++ C) ++ (zs ++ post)).toArray 58 (0, 0))) ∧ Only (· = b) u w') :=
    fun u hu => sldel_any A C x (hu.trans hh) h1 hlim
  obtain ⟨k, hk2⟩ : ∃ k, k = A.length := ⟨_, rfl⟩
  obtain ⟨len, hlen2⟩ : ∃ len, len = A.length + C.length + 1 := ⟨_, rfl⟩
  have HL := Lib.hid hlen2
  have HK := Lib.hid hk2
  rw [← hlen2] at HH HD c0 hm hk hlim ⊢
  rw [← hk2] at HD q0 q1 q2 hk ⊢
  have i0 : (0 : Int) ≤ (k : Int) := by omega
  have i1 : (k : Int) < (len : Int) := by omega
  have i2 : decide ((k : Int) < (len : Int) / 2) = false := by simp; omega
  have i3 : IntKind.i64.wrap ((k : Int) + 1) = (k : Int) + 1 := by rw [IntKind.wrap_i64]; omega
  clear H hh hlen hlen2 hk2 hk
  go_enter Try.func25, Try.ntmps25
  go_wp2_with fail
  refine (HD.out _ ((show Below w.heap.size w _ by go_grown).block b hbl)).mono ?_
  rintro e w2 ⟨rfl, ⟨zs, hz, hh2⟩, ho2⟩
  have hW := Lib.hid (show Below w.heap.size w ((w.alloc (.cells #[.int .i64 0, .int .i64 0, .string ⟨#[]⟩] 58)).alloc (.cells #[.int .i64 x.fr, .int .i64 x.to, .string x.tx] 58)) by go_grown)
  have hn0 : ¬ (w.heap.size = b) := by omega
  have hn1 : ¬ (w.heap.size + 1 = b) := by omega
  have a0 : w2.cell? ⟨w.heap.size, 0, none⟩ = some (.int .i64 0) := (ho2.cell (by simp; omega) hn0).trans (by simp)
  have a1 : w2.cell? ⟨w.heap.size, 1, none⟩ = some (.int .i64 0) := (ho2.cell (by simp; omega) hn0).trans (by simp)
  have a2 : w2.cell? ⟨w.heap.size, 2, none⟩ = some (.string ⟨#[]⟩) := (ho2.cell (by simp; omega) hn0).trans (by simp)
  have m0 : w2.cell? ⟨w.heap.size + 1, 0, none⟩ = some (.int .i64 x.fr) := (ho2.cell (by simp) hn1).trans (by simp)
  have m1 : w2.cell? ⟨w.heap.size + 1, 1, none⟩ = some (.int .i64 x.to) := (ho2.cell (by simp) hn1).trans (by simp)
  have m2 : w2.cell? ⟨w.heap.size + 1, 2, none⟩ = some (.string x.tx) := (ho2.cell (by simp) hn1).trans (by simp)
  have f0 : w2.frozen? ⟨w.heap.size, 0, none⟩ = false := (ho2.frozen (by simp; omega) hn0).trans (by simp)
  have f1 : w2.frozen? ⟨w.heap.size, 1, none⟩ = false := (ho2.frozen (by simp; omega) hn0).trans (by simp)
  have f2 : w2.frozen? ⟨w.heap.size, 2, none⟩ = false := (ho2.frozen (by simp; omega) hn0).trans (by simp)
  have hg2 : w2.heap[g]? = some (.cells #[.slice (some ⟨b, o, none⟩) len (len + sp)] 55 (0, 0)) := (ho2.block g (by simp; omega) hgb).trans (HH.out.on (by go_grown)).blk
  have x2 : w2.cell? ⟨g, 0, none⟩ = some (.slice (some ⟨b, o, none⟩) len (len + sp)) := by simp [World.cell?, hg2]
  have z2 : w2.frozen? ⟨g, 0, none⟩ = false := by simp [World.frozen?, hg2]
  have HB3 := Lib.hid ((ho2.block w.heap.size (by simp; omega) hn0).trans ((((Below.refl _ _).alloc (Nat.le_refl _) _).block w.heap.size (by simp)).trans (heap_alloc_new w _)))
  obtain ⟨r, hr⟩ : ∃ r, r = w.heap.size := ⟨_, rfl⟩
  have HO := Lib.hid ho2
  have H2 := Lib.hid hh2
  have HZ := Lib.hid hz
  have hgr : g < r := by omega
  have HR := Lib.hid hr
  rw [← hr] at HB3 a0 a1 a2 m0 m1 m2 f0 f1 f2 ⊢
  clear hg2 ho2 hh2 hz HD c0 z0 q0 q1 q2 hr hn0 hn1 hgl
  have HBL := Lib.hid hbl
  clear hbl
  go_wp2
  have hB3 := set3_blk (w := w2.setCell ⟨g, 0, none⟩ (.slice (some ⟨b, o, none⟩) (k + C.length) (len + sp))) (((Only.set g 0 w2 _).block r (lt_of_block HB3.out) (by omega)).trans HB3.out) (.int .i64 x.fr) (.int .i64 x.to) (.string x.tx)
  obtain ⟨e0, e1, e2⟩ := hB3
  refine bodyPost_ret (v := .agg (msgC x).toArray) (by simp only [results, Try.results25]; simp [go_sem, e0, e1, e2, msgC]) rfl ⟨rfl, BR.fin HH.out hW.out (HO.out.mono fun y _ hy => by subst hy; exact ⟨_, _, _, rfl⟩) (.inr ⟨b, o, sp + 1, pre, zs ++ post, ?_, hb, H2.out, h1, ?_, ?_⟩) ?_ (Only.set3 (Nat.le_of_eq HR.out.symm) _ _ _)⟩
  · rw [List.length_append, ← HK.out, show k + C.length + (sp + 1) = len + sp by have := HL.out; have := HK.out; omega]
  · rw [List.length_append, HZ.out, h2]; omega
  · rw [List.length_append]; have := HL.out; omega
  · rintro y ⟨_, _, _, hy⟩
    simp at hy
    have := hy.1.1
    have := HBL.out
    omega

set_option maxHeartbeats 4000000 in
/-- A message of the row's first half is taken out. -/
theorem rwout_lo {w : World} {n g : Nat} {v : Value} {A C : List MsgV} {x : MsgV} (H : Bg w n g v (A ++ x :: C)) (hlim : A.length + C.length + 1 ≤ 1000000) (hk : A.length < (A.length + C.length + 1) / 2) :
    Calls Try.prog 25 #[.pointer (some ⟨g, 0, none⟩), .int .i64 A.length] w fun e w' => e = .returned (.agg (msgC x).toArray) ∧ BR n g v (A ++ C) w w' := by
  obtain ⟨c0, z0⟩ := H.cells
  have hgl := H.lt
  have HH := Lib.hid H
  rcases H.row with ⟨rfl, h0⟩ | ⟨b, o, sp, pre, post, rfl, hb, hh, h1, h2, hm⟩
  · simp at h0
  have hbl := lt_of_block hh
  have hlen : (A ++ x :: C).length = A.length + C.length + 1 := by simp; omega
  have hgb : g ≠ b := fun e => by subst e; exact H.ne ⟨_, _, _, rfl⟩
  have hc := row_cells hh A.length (by rw [hlen]; omega)
  rw [show mAt (A ++ x :: C) A.length = x by simp [mAt, List.getD], h1] at hc
  obtain ⟨q0, q1, q2⟩ := hc
  rw [hlen] at c0 hm HH ⊢
  have e0 : rowC (A ++ x :: C) = rowC A ++ msgC x ++ rowC C := by rw [rowC_append, rowC_cons, List.append_assoc]
  -- the row as the copy sees it: the first cells, what is written over, what stays
  obtain ⟨f, mid, hfm, hf, hmid⟩ : ∃ f mid, rowC A ++ msgC x = f ++ mid ∧ f.length = 3 ∧ mid.length = A.length * 3 := by
    have hl : (rowC A ++ msgC x).length = A.length * 3 + 3 := by rw [List.length_append, rowC_length]; rfl
    exact ⟨(rowC A ++ msgC x).take 3, (rowC A ++ msgC x).drop 3, (List.take_append_drop _ _).symm, by rw [List.length_take, hl]; omega, by rw [List.length_drop, hl]; omega⟩
  have hg1 : w.heap[b]? = some (.cells ((pre ++ f) ++ mid ++ (rowC C ++ post)).toArray 58 (0, 0)) := by rw [hh, e0, hfm]; simp [List.append_assoc]
  have hg2 : w.heap[b]? = some (.cells (pre ++ rowC A ++ (msgC x ++ rowC C ++ post)).toArray 58 (0, 0)) := by rw [hh, e0]; simp [List.append_assoc]
  have hmid2 : mid.length = (rowC A).length := by rw [hmid, rowC_length]
  obtain ⟨k, hk2⟩ : ∃ k, k = A.length := ⟨_, rfl⟩
  obtain ⟨len, hlen2⟩ : ∃ len, len = A.length + C.length + 1 := ⟨_, rfl⟩
  have HL := Lib.hid hlen2
  have HK := Lib.hid hk2
  have HP : Hid ((pre ++ f).length = o + 1 * 3) := Lib.hid (by rw [List.length_append, h1, hf])
  have HM := Lib.hid hmid2
  have HG1 : Hid (∀ u : World, u.heap[b]? = w.heap[b]? → u.heap[b]? = some (.cells ((pre ++ f) ++ mid ++ (rowC C ++ post)).toArray 58 (0, 0))) := fun u hu => hu.trans hg1
  have HS : Hid (∀ u : World, u.heap[b]? = w.heap[b]? → ∀ j v, (rowC A)[j]? = some v → u.cell? (Addr.add ⟨b, o, none⟩ j) = some v) := fun u hu j v hj => by
    rw [Addr.add_lit, ← h1]
    exact cell_mid (hu.trans hg2) j v hj
  have HC : Hid ((rowC A).length = Nat.min k (len - 1) * 3) := Lib.hid (by rw [rowC_length, ← hk2, show Nat.min k (len - 1) = k from Nat.min_eq_left (by omega)])
  have HF := Lib.hid hf
  rw [← hlen2] at HH c0 hm hk hlim ⊢
  rw [← hk2] at q0 q1 q2 hk ⊢
  have i0 : (0 : Int) ≤ (k : Int) := by omega
  have i1 : (k : Int) < (len : Int) := by omega
  have i2 : decide ((k : Int) < (len : Int) / 2) = true := by simp; omega
  have i4 : (1 : Int) ≤ (len : Int) := by omega
  have i5 : ¬ (len + sp = 1) := by omega
  have i6 : (1 : Int) ≤ (len : Int) + (sp : Int) := by omega
  have i7 : (k : Int) ≤ (len : Int) + (sp : Int) := by omega
  clear H hh hlen hlen2 hk2 hk hg1 hg2 hmid2 hmid hf hfm e0
  go_enter Try.func25, Try.ntmps25
  go_wp2_with fail
  go_region_law (refine step_copy3 rfl (.tmp 25) (.tmp 31) rfl b (o + 1 * 3) (len - 1) (len + sp - 1) ⟨b, o, none⟩ k (len + sp) (pre ++ f) mid (rowC C ++ post) (rowC A) (by simp [Act.eval, Act.put]) (by simp [Act.eval, Act.put]) (HG1.out _ ((show Below w.heap.size w _ by go_grown).block b hbl)) HP.out HM.out HC.out (HS.out _ ((show Below w.heap.size w _ by go_grown).block b hbl)) (fun v hv => mem_rowC hv) ?_
                 intro z w2 hh2 ho2
                 have HH2 := Lib.hid hh2
                 have HO := Lib.hid ho2
                 clear hh2 ho2)
  all_goals
    have hh2 : w2.heap[b]? = some (.cells (pre ++ f ++ (rowC A ++ rowC C ++ post)).toArray 58 (0, 0)) := by rw [HH2.out]; simp [List.append_assoc]
    obtain ⟨zs, hz, hcl⟩ := run_clear3 b o 1 pre f _ (by omega) hh2 h1 HF.out
    obtain ⟨w3, hw3, hh3, ho23⟩ : ∃ w3, w3 = w2.setRow b (pre ++ zs ++ (rowC A ++ rowC C ++ post)).toArray ∧ w3.heap[b]? = some (.cells (pre ++ zs ++ (rowC A ++ rowC C ++ post)).toArray 58 (0, 0)) ∧ Only (· = b) w2 w3 :=
      ⟨_, rfl, setRow_heap w2 b _ _ 58 _ hh2, ⟨rfl, rfl, rfl, by simp, fun k _ hk => setRow_other w2 b k _ hk⟩⟩
    rw [← hw3] at hcl
    have y2 : w2.cell? ⟨g, 0, none⟩ = some (.slice (some ⟨b, o, none⟩) len (len + sp)) := by
      have hy2 := (HO.out.block g (by simp; omega) hgb).trans (HH.out.on (by go_grown)).blk
      simp [World.cell?, hy2]
    have ho3 := HO.out.trans ho23
    clear hw3 ho23 hh2 HH2 HO
    have hW := Lib.hid (show Below w.heap.size w ((w.alloc (.cells #[.int .i64 0, .int .i64 0, .string ⟨#[]⟩] 58)).alloc (.cells #[.int .i64 x.fr, .int .i64 x.to, .string x.tx] 58)).drew by go_grown)
    have hn0 : ¬ (w.heap.size = b) := by omega
    have hn1 : ¬ (w.heap.size + 1 = b) := by omega
    have a0 : w3.cell? ⟨w.heap.size, 0, none⟩ = some (.int .i64 0) := (ho3.cell (by simp; omega) hn0).trans (by simp)
    have a1 : w3.cell? ⟨w.heap.size, 1, none⟩ = some (.int .i64 0) := (ho3.cell (by simp; omega) hn0).trans (by simp)
    have a2 : w3.cell? ⟨w.heap.size, 2, none⟩ = some (.string ⟨#[]⟩) := (ho3.cell (by simp; omega) hn0).trans (by simp)
    have m0 : w3.cell? ⟨w.heap.size + 1, 0, none⟩ = some (.int .i64 x.fr) := (ho3.cell (by simp) hn1).trans (by simp)
    have m1 : w3.cell? ⟨w.heap.size + 1, 1, none⟩ = some (.int .i64 x.to) := (ho3.cell (by simp) hn1).trans (by simp)
    have m2 : w3.cell? ⟨w.heap.size + 1, 2, none⟩ = some (.string x.tx) := (ho3.cell (by simp) hn1).trans (by simp)
    have f0 : w3.frozen? ⟨w.heap.size, 0, none⟩ = false := (ho3.frozen (by simp; omega) hn0).trans (by simp)
    have f1 : w3.frozen? ⟨w.heap.size, 1, none⟩ = false := (ho3.frozen (by simp; omega) hn0).trans (by simp)
    have f2 : w3.frozen? ⟨w.heap.size, 2, none⟩ = false := (ho3.frozen (by simp; omega) hn0).trans (by simp)
    have hg2 : w3.heap[g]? = some (.cells #[.slice (some ⟨b, o, none⟩) len (len + sp)] 55 (0, 0)) := (ho3.block g (by simp; omega) hgb).trans (HH.out.on (by go_grown)).blk
    have x2 : w3.cell? ⟨g, 0, none⟩ = some (.slice (some ⟨b, o, none⟩) len (len + sp)) := by simp [World.cell?, hg2]
    have z2 : w3.frozen? ⟨g, 0, none⟩ = false := by simp [World.frozen?, hg2]
    have HB3 := Lib.hid ((ho3.block w.heap.size (by simp; omega) hn0).trans ((((Below.refl _ _).alloc (Nat.le_refl _) _).block w.heap.size (by simp)).trans (heap_alloc_new w _)))
    obtain ⟨r, hr⟩ : ∃ r, r = w.heap.size := ⟨_, rfl⟩
    have HO := Lib.hid ho3
    have H2 := Lib.hid hh3
    have HZ := Lib.hid hz
    have hgr : g < r := by omega
    have HR := Lib.hid hr
    rw [← hr] at HB3 a0 a1 a2 m0 m1 m2 f0 f1 f2 ⊢
    clear hg2 ho3 hh3 hz c0 z0 q0 q1 q2 hr hn0 hn1 hgl
    have HBL := Lib.hid hbl
    clear hbl
    go_wp2
    have hB3 := set3_blk (w := w3.setCell ⟨g, 0, none⟩ (.slice (some ⟨b, o + 3, none⟩) (len - 1) (len + sp - 1))) (((Only.set g 0 w3 _).block r (lt_of_block HB3.out) (by omega)).trans HB3.out) (.int .i64 x.fr) (.int .i64 x.to) (.string x.tx)
    obtain ⟨e0, e1, e2⟩ := hB3
    refine bodyPost_ret (v := .agg (msgC x).toArray) (by simp only [results, Try.results25]; simp [go_sem, e0, e1, e2, msgC]) rfl ⟨rfl, BR.fin HH.out hW.out (HO.out.mono fun y _ hy => by subst hy; exact ⟨_, _, _, rfl⟩) (.inr ⟨b, o + 3, sp, pre ++ zs, post, ?_, hb, ?_, ?_, h2, ?_⟩) ?_ (Only.set3 (Nat.le_of_eq HR.out.symm) _ _ _)⟩
    · rw [List.length_append, ← HK.out, show k + C.length + sp = len + sp - 1 by have := HL.out; have := HK.out; omega, show k + C.length = len - 1 by have := HL.out; have := HK.out; omega]
    · rw [H2.out, rowC_append]; simp [List.append_assoc]
    · rw [List.length_append, h1, HZ.out]
    · rw [List.length_append]; have := HL.out; omega
    · rintro y ⟨_, _, _, hy⟩
      simp at hy
      have := hy.1.1
      have := HBL.out
      omega

theorem split_at (L : List MsgV) (k : Nat) (hk : k < L.length) : L = L.take k ++ mAt L k :: L.drop (k + 1) := by
  have h : mAt L k = L[k] := by unfold mAt; rw [List.getD_eq_getElem?_getD, List.getElem?_eq_getElem hk]; rfl
  rw [h, List.getElem_cons_drop, List.take_append_drop]
/-- The message at a place is taken out. -/
theorem rwout_any {w : World} {n g : Nat} {v : Value} {L : List MsgV} (H : Bg w n g v L) (k : Nat) (hk : k < L.length) (hlim : L.length ≤ 1000000) :
    Calls Try.prog 25 #[.pointer (some ⟨g, 0, none⟩), .int .i64 k] w fun e w' => e = .returned (.agg (msgC (mAt L k)).toArray) ∧ BR n g v (L.take k ++ L.drop (k + 1)) w w' := by
  have hs := split_at L k hk
  have hl : (L.take k).length = k := by rw [List.length_take]; omega
  have hl2 := congrArg List.length hs
  rw [List.length_append, List.length_cons, hl] at hl2
  generalize hA : L.take k = A at *
  generalize hC : L.drop (k + 1) = C at *
  generalize hx : mAt L k = x at *
  clear hA hC hx
  subst hs
  subst hl
  by_cases hq : A.length < (A.length + C.length + 1) / 2
  · exact rwout_lo H (by omega) hq
  · exact rwout_hi H (by omega) hq
end Go.Proofs.Ytkflkkdfklbfpaa
