/-
  A LOG AS A LAW HAS IT: each call by contract, its own blocks apart from the law's. No condition but that a log has at most a hundred thousand requests.
-/
import Derived.Test.YtenjjgghoacboaaLnT
import Derived.Test.YtenjjgghoacboaaLnF
namespace Go.Proofs.Ytenjjgghoacboaa
open Go.RowKit

/-- What Put makes of a log, the place it tells, its error. -/
def lputV (L : List ReqV) (r : ReqV) : List ReqV × Int × Int := if ¬ r.puts then (L, 0, 1) else if r.seq ≤ seqL L r.client.toNat then (L, 0, 9) else (L ++ [r], (L.length : Int) + 1, 0)
theorem lputV_bad {L : List ReqV} {r : ReqV} (h : ¬ r.puts) : lputV L r = (L, 0, 1) := if_pos h
theorem lputV_old {L : List ReqV} {r : ReqV} (h : r.puts) (h2 : r.seq ≤ seqL L r.client.toNat) : lputV L r = (L, 0, 9) := by unfold lputV; rw [if_neg (fun h' => h' h), if_pos h2]
theorem lputV_yes {L : List ReqV} {r : ReqV} (h : r.puts) (h2 : ¬ r.seq ≤ seqL L r.client.toNat) : lputV L r = (L ++ [r], (L.length : Int) + 1, 0) := by unfold lputV; rw [if_neg (fun h' => h' h), if_neg h2]
theorem lputV_len (L : List ReqV) (r : ReqV) : L.length ≤ (lputV L r).1.length ∧ (lputV L r).1.length ≤ L.length + 1 := by
  unfold lputV
  split
  · exact ⟨Nat.le_refl _, Nat.le_succ _⟩
  · split
    · exact ⟨Nat.le_refl _, Nat.le_succ _⟩
    · simp

/-- A log with c committed; S its blocks; what lay below n is as it was in w. -/
structure GLo (n : Nat) (w : World) (g : Nat) (q : Int) (L : List ReqV) (c : Nat) (S : Nat → Prop) (u : World) : Prop where
  ls : ∃ d vq vr vp K, Lin u n g d vq vr vp q L K ∧ K.length = c ∧ S = LB g d vq vr vp
  bel : Below n w u
  nw : n ≤ w.heap.size
/-- What a call that turns a log leaves. -/
structure LTurn (n : Nat) (w : World) (g : Nat) (q : Int) (L' : List ReqV) (c' : Nat) (S S' : Nat → Prop) (u w' : World) : Prop where
  lo : GLo n w g q L' c' S' w'
  only : Only S u w'
  more : ∀ x, S' x → S x ∨ u.heap.size ≤ x
section
variable {n : Nat} {w u u' : World} {g : Nat} {q : Int} {L : List ReqV} {c : Nat} {S : Nat → Prop}
theorem GLo.size (h : GLo n w g q L c S u) : n ≤ u.heap.size := Nat.le_trans h.nw h.bel.size
theorem GLo.all (h : GLo n w g q L c S u) {x : Nat} (hx : S x) : NoBool u x ∧ x < u.heap.size ∧ n ≤ x := by
  obtain ⟨d, vq, vr, vp, K, H, _, rfl⟩ := h.ls
  exact H.all hx
theorem GLo.on (h : GLo n w g q L c S u) (hb : Below u.heap.size u u') : GLo n w g q L c S u' := by
  obtain ⟨d, vq, vr, vp, K, H, hk, hs⟩ := h.ls
  exact ⟨⟨d, vq, vr, vp, K, H.on hb, hk, hs⟩, h.bel.trans (hb.mono h.size), h.nw⟩
theorem GLo.keep {T : Nat → Prop} (h : GLo n w g q L c S u) (ho : Only T u u') (hs : ∀ x, S x → ¬ T x) (hn : ∀ x, T x → x < u.heap.size → NoBool u x ∧ n ≤ x) : GLo n w g q L c S u' := by
  obtain ⟨d, vq, vr, vp, K, H, hk, rfl⟩ := h.ls
  refine ⟨⟨d, vq, vr, vp, K, H.keep ho hs (fun x hx hl => (hn x hx hl).1), hk, rfl⟩, h.bel.trans ⟨ho.os, ho.tape, ho.output, ho.size, fun k hk => ho.block k (by have := h.size; omega) fun ht => ?_⟩, h.nw⟩
  have := (hn k ht (by have := h.size; omega)).2
  omega
theorem GLo.ok (h : GLo n w g q L c S u) : okL L ∧ c ≤ L.length ∧ 1 ≤ q ∧ q ≤ 100 := by
  obtain ⟨d, vq, vr, vp, K, H, hk, _⟩ := h.ls
  exact ⟨H.ok, hk ▸ H.kle, H.quo⟩
theorem GLo.turn (h : GLo n w g q L c S u) {L' : List ReqV} {c' : Nat} (w' : World) {d : Nat} {vq vr : Value} {vp : Nat → Value} {K : List RcV} (H : Lin w' n g d vq vr vp q L' K) (hk : K.length = c') (ho : Only S u w') (hm : ∀ z, LB g d vq vr vp z → S z ∨ u.heap.size ≤ z) : LTurn n w g q L' c' S (LB g d vq vr vp) u w' := by
  refine ⟨⟨⟨d, vq, vr, vp, K, H, hk, rfl⟩, h.bel.trans ⟨ho.os, ho.tape, ho.output, ho.size, fun k hk => ho.block k (by have := h.size; omega) fun hs => ?_⟩, h.nw⟩, ho, hm⟩
  have := (h.all hs).2.2
  omega
theorem GLo.still (h : GLo n w g q L c S u) (hb : Below u.heap.size u u') : LTurn n w g q L c S S u u' := ⟨h.on hb, .of hb, fun _ hx => .inl hx⟩
theorem GLo.len (h : GLo n w g q L c S u) : Calls Try.prog 15 #[.pointer (some ⟨g, 0, none⟩)] u fun e w' => e = .returned (.int .i64 L.length) ∧ u = w' := by
  obtain ⟨d, vq, vr, vp, K, H, hk, _⟩ := h.ls
  exact llen_r H
theorem GLo.com (h : GLo n w g q L c S u) : Calls Try.prog 16 #[.pointer (some ⟨g, 0, none⟩)] u fun e w' => e = .returned (.int .i64 c) ∧ u = w' := by
  obtain ⟨d, vq, vr, vp, K, H, rfl, _⟩ := h.ls
  exact lcom_r H
theorem GLo.seq (h : GLo n w g q L c S u) (hL : L.length ≤ 100000) (x M : Int) (hM : seqV L x = M) : Calls Try.prog 46 #[.pointer (some ⟨g, 0, none⟩), .int .i64 x] u fun e w' => e = .returned (.int .i64 M) ∧ Below u.heap.size u w' := by
  obtain ⟨d, vq, vr, vp, K, H, rfl, _⟩ := h.ls
  exact lseq_r H (by omega) x M hM
theorem GLo.last (h : GLo n w g q L c S u) (x M : Int) (hM : lastV18 L x = M) : Calls Try.prog 28 #[.pointer (some ⟨g, 0, none⟩), .int .i64 x] u fun e w' => e = .returned (.int .i64 M) ∧ u = w' := by
  obtain ⟨d, vq, vr, vp, K, H, rfl, _⟩ := h.ls
  exact llast_r H x M hM
theorem GLo.find (h : GLo n w g q L c S u) (hL : L.length ≤ 100000) (x y : Int) : Calls Try.prog 45 #[.pointer (some ⟨g, 0, none⟩), .int .i64 x, .int .i64 y] u (FindR L x y u) := by
  obtain ⟨d, vq, vr, vp, K, H, rfl, _⟩ := h.ls
  exact lfind_r H (by omega) x y
theorem GLo.since (h : GLo n w g q L c S u) (hL : L.length ≤ 100000) (k : Nat) (most : Int) : Calls Try.prog 18 #[.pointer (some ⟨g, 0, none⟩), .int .i64 k, .int .i64 most] u (SinceR (comeQ L k (cntQ L k most)) u) := by
  obtain ⟨d, vq, vr, vp, K, H, rfl, _⟩ := h.ls
  exact lsince_r H (by omega) k most
theorem GLo.store (h : GLo n w g q L c S u) (hL : L.length ≤ 100000) : Calls Try.prog 24 #[.pointer (some ⟨g, 0, none⟩)] u fun e w' => e = .returned (.pointer (some ⟨u.heap.size, 0, none⟩)) ∧ Sto layP w' u.heap.size (stoOf q (L.take c)) ∧ Below u.heap.size u w' := by
  obtain ⟨d, vq, vr, vp, K, H, rfl, _⟩ := h.ls
  exact callsIn_wide.1 (lstore_in 3 (Nat.le_refl _) H hL)
theorem GLo.replyNo (h : GLo n w g q L c S u) (i : Int) (hi : i < 1 ∨ c < i) : Calls Try.prog 22 #[.pointer (some ⟨g, 0, none⟩), .int .i64 i] u fun e w' => e = .returned (.tuple #[.agg #[.int .i64 0, .int .i64 0, .string ⟨#[]⟩, .slice none 0 0], .int .i64 6]) ∧ Below u.heap.size u w' := by
  obtain ⟨d, vq, vr, vp, K, H, rfl, _⟩ := h.ls
  exact lreply_no H i hi
/-- What Reply tells. -/
def RepR (cd vr : Int) (dt : ByteArray) (w : World) (e : Ending) (w' : World) : Prop := ∃ ao cap, e = .returned (.tuple #[.agg #[.int .i64 cd, .int .i64 vr, .string dt, .slice ao 0 cap], .int .i64 0]) ∧ Nil0 (.slice ao 0 cap) ∧ Below w.heap.size w w'
theorem GLo.replyYes (h : GLo n w g q L c S u) (hL : L.length ≤ 100000) (k : Nat) (hk : k < c) (A : PutA) (hA : putA (stoOf q (L.take k)) (atL L k) = A) : Calls Try.prog 22 #[.pointer (some ⟨g, 0, none⟩), .int .i64 ((k : Int) + 1)] u (RepR A.code A.ver A.data u) := by
  have hok := h.ok
  obtain ⟨d, vq, vr, vp, K, H, rfl, _⟩ := h.ls
  refine (lreply_yes H k hk (by omega)).mono fun e w' ⟨he, hb⟩ => ?_
  obtain ⟨r1, r2, r3, ao, cap, r4, r5, r6⟩ := H.rep k hk
  have e1 : rcV K k = K.getD k rc0 := rfl
  rw [e1, r1, r2, r3, r4, hA] at he
  exact ⟨ao, cap, he, ⟨ao, cap, rfl, r5, r6⟩, hb⟩
theorem GLo.comNo (h : GLo n w g q L c S u) (i : Int) (hi : i < c ∨ L.length < i) : Calls Try.prog 21 #[.pointer (some ⟨g, 0, none⟩), .int .i64 i] u fun e w' => e = .returned (.int .i64 6) ∧ Below u.heap.size u w' := by
  obtain ⟨d, vq, vr, vp, K, H, rfl, _⟩ := h.ls
  exact lcommit_no H i hi
/-- How Commit ends where it commits. -/
def ComR (n : Nat) (w : World) (g : Nat) (q : Int) (L : List ReqV) (c' : Nat) (S : Nat → Prop) (u : World) (e : Ending) (w' : World) : Prop := e = .returned (.int .i64 0) ∧ ∃ S', LTurn n w g q L c' S S' u w'
theorem GLo.comYes (h : GLo n w g q L c S u) (hL : L.length ≤ 100000) (c' : Nat) (h1 : c ≤ c') (h2 : c' ≤ L.length) : Calls Try.prog 21 #[.pointer (some ⟨g, 0, none⟩), .int .i64 c'] u (ComR n w g q L c' S u) := by
  have hsz := h.size
  obtain ⟨d, vq, vr, vp, K, H, rfl, hs⟩ := h.ls
  refine (lcommit_r H hL hsz c' h1 h2).mono fun e w' ⟨he, vr', K', H', hk', ho, hm⟩ => ⟨he, _, h.turn w' H' hk' (by rw [hs]; exact ho) (by rw [hs]; exact hm)⟩
/-- How Put ends. -/
def PutLR (n : Nat) (w : World) (g : Nat) (q : Int) (L' : List ReqV) (p x : Int) (c : Nat) (S : Nat → Prop) (u : World) (e : Ending) (w' : World) : Prop := e = .returned (.tuple #[.int .i64 p, .int .i64 x]) ∧ ∃ S', LTurn n w g q L' c S S' u w'
theorem GLo.put (h : GLo n w g q L c S u) (hL : L.length ≤ 100000) (cl sq kd id mt : Int) (dt : ByteArray) (hd : dt.size ≤ maxLen) (L' : List ReqV) (p x : Int) (hV : lputV L ⟨cl, sq, kd, id, mt, dt⟩ = (L', p, x)) :
    Calls Try.prog 19 #[.pointer (some ⟨g, 0, none⟩), .agg #[.int .i64 cl, .int .i64 sq, .int .i64 kd, .int .i64 id, .int .i64 mt, .string dt]] u (PutLR n w g q L' p x c S u) := by
  have hsz := h.size
  have hd' : dt.size ≤ 9223372036854775807 := by unfold maxLen at hd; omega
  obtain ⟨d, vq, vr, vp, K, H, hk, hs⟩ := h.ls
  by_cases hm : ReqV.may ⟨cl, sq, kd, id, mt, dt⟩
  · have HM : Hid (∀ u, Calls Try.prog 59 #[.agg #[.int .i64 cl, .int .i64 sq, .int .i64 kd, .int .i64 id, .int .i64 mt, .string dt]] u fun e w' => e = .returned (.bool true) ∧ Below u.heap.size u w') :=
      fun u => mayreq_r cl sq kd id mt dt hd' true (decide_eq_true hm).symm u
    have hm' := hm
    unfold ReqV.may at hm'
    simp only at hm'
    by_cases hw : kd ≤ 3
    · have HW : Hid (∀ u, Calls Try.prog 60 #[.agg #[.int .i64 cl, .int .i64 sq, .int .i64 kd, .int .i64 id, .int .i64 mt, .string dt]] u fun e w' => e = .returned (.bool true) ∧ Below u.heap.size u w') := by
        intro u
        have h := writes_any cl sq kd id mt dt u
        rwa [decide_eq_true (show 1 ≤ kd ∧ kd ≤ 3 by omega)] at h
      obtain ⟨c', rfl⟩ : ∃ c : Nat, cl = c := ⟨cl.toNat, by omega⟩
      obtain ⟨i, rfl⟩ : ∃ i : Nat, id = i := ⟨id.toNat, by omega⟩
      have hc : c' < 4 := by omega
      have hi : i < 32 := by omega
      have hsv : seqV L (c' : Int) = seqL L c' := by unfold seqV; rw [if_pos (by omega), Int.toNat_natCast]
      by_cases ho : sq ≤ seqL L c'
      · rw [lputV_old ⟨hm, hw⟩ (by show sq ≤ seqL L (c' : Int).toNat; rw [Int.toNat_natCast]; exact ho)] at hV
        simp only [Prod.mk.injEq] at hV
        obtain ⟨rfl, rfl, rfl⟩ := hV
        refine (lput_old H (by omega) c' sq kd i mt dt (seqL L c') hsv HM HW (fun u => newer_r c' sq kd i mt (seqL L c') dt hd' false ?_ u)).mono fun e w' ⟨he, hb⟩ => ⟨he, S, h.still hb⟩
        show _ = _
        rw [decide_eq_true hm, decide_eq_false (by omega)]
        rfl
      · rw [lputV_yes ⟨hm, hw⟩ (by show ¬ sq ≤ seqL L (c' : Int).toNat; rw [Int.toNat_natCast]; exact ho)] at hV
        simp only [Prod.mk.injEq] at hV
        obtain ⟨rfl, rfl, rfl⟩ := hV
        refine (lput_done H (by omega) hsz c' i hc hi sq kd mt dt (seqL L c') hsv (by omega) ⟨hm, hw⟩ HM HW (fun u => newer_r c' sq kd i mt (seqL L c') dt hd' true ?_ u) (fun u => key_r c' sq kd i mt dt hd' i (show _ = _ from (if_pos hm).symm) u)).mono fun e w' ⟨he, vq', vp', H', ho', hm'⟩ => ⟨he, _, h.turn w' H' hk (by rw [hs]; exact ho') (by rw [hs]; exact hm')⟩
        show _ = _
        rw [decide_eq_true hm, decide_eq_true (by omega)]
        rfl
    · have HW : Hid (∀ u, Calls Try.prog 60 #[.agg #[.int .i64 cl, .int .i64 sq, .int .i64 kd, .int .i64 id, .int .i64 mt, .string dt]] u fun e w' => e = .returned (.bool false) ∧ Below u.heap.size u w') := by
        intro u
        have h := writes_any cl sq kd id mt dt u
        rwa [decide_eq_false (show ¬ (1 ≤ kd ∧ kd ≤ 3) by omega)] at h
      rw [lputV_bad (fun hp => hw hp.2)] at hV
      simp only [Prod.mk.injEq] at hV
      obtain ⟨rfl, rfl, rfl⟩ := hV
      exact (lput_bad2 H cl sq kd id mt dt HM HW).mono fun e w' ⟨he, hb⟩ => ⟨he, S, h.still hb⟩
  · have HM : Hid (∀ u, Calls Try.prog 59 #[.agg #[.int .i64 cl, .int .i64 sq, .int .i64 kd, .int .i64 id, .int .i64 mt, .string dt]] u fun e w' => e = .returned (.bool false) ∧ Below u.heap.size u w') :=
      fun u => mayreq_r cl sq kd id mt dt hd' false (decide_eq_false hm).symm u
    rw [lputV_bad (fun hp => hm hp.1)] at hV
    simp only [Prod.mk.injEq] at hV
    obtain ⟨rfl, rfl, rfl⟩ := hV
    exact (lput_bad1 H cl sq kd id mt dt HM).mono fun e w' ⟨he, hb⟩ => ⟨he, S, h.still hb⟩
end
theorem glo_new (q : Int) (h1 : 1 ≤ q) (h2 : q ≤ 100) {n : Nat} {w0 w : World} (hb : Below n w0 w) (hn : n ≤ w0.heap.size) :
    Calls Try.prog 11 #[.int .i64 q] w fun e w' => ∃ g S, e = .returned (.tuple #[.pointer (some ⟨g, 0, none⟩), .int .i64 0]) ∧ Hid (GLo n w0 g q [] 0 S w' ∧ Below w.heap.size w w' ∧ ∀ x, S x → w.heap.size ≤ x) :=
  (lnew_yes q h1 h2 w).mono fun e w' ⟨he, H, hb'⟩ => by
    have hs := Nat.le_trans hn hb.size
    have H' : Lin w' n (w.heap.size + 1) w.heap.size (.slice none 0 0) (.slice none 0 0) (fun _ => .slice none 0 0) q [] [] := by
      obtain ⟨⟨a1, _, _, _, a5, a6, _, _⟩, k1, k2, k3, k4⟩ := H
      exact ⟨⟨a1, ORow.none _ _ _ _, ORow.none _ _ _ _, fun c _ => ORow.none _ _ _ _, a5, a6, by omega, by omega⟩, k1, k2, k3, k4⟩
    exact ⟨_, _, he, ⟨⟨_, _, _, _, _, H', rfl, rfl⟩, hb.trans (hb'.mono hs), hn⟩, hb', fun x hx => (H.all hx).2.2⟩
end Go.Proofs.Ytenjjgghoacboaa
