/-
  A STEP OF LinePlays: both logs tell the same, and are the same behind it. Of logs of at most a thousand requests. Written by gen/XLnM.gen.py.
-/
import Derived.Test.YtenjjgghoacboaaLnG
import Derived.Test.YtenjjgghoacboaaStoreE
import Derived.Test.YtenjjgghoacboaaReqT
import Derived.Deep.RegionHeld3
import Derived.BigQuiet
namespace Go.Proofs.Ytenjjgghoacboaa
open Go.RowKit

section
variable {n : Nat} {w u : World} {g b : Nat} {q : Int} {L : List ReqV} {c : Nat} {S : Nat → Prop} {vq : Value}
theorem FindOk.one {L : List ReqV} (h : okL L) {x y p p' : Int} {f f' : Bool} (h1 : FindOk L x y p f) (h2 : FindOk L x y p' f') : p = p' ∧ f = f' := by
  rcases h1 with ⟨rfl, k, rfl, hk⟩ | ⟨rfl, rfl, hn⟩
  · rcases h2 with ⟨rfl, j, rfl, hj⟩ | ⟨rfl, rfl, hn⟩
    · obtain rfl := Stands.one h hk hj
      exact ⟨rfl, rfl⟩
    · exact absurd hk (hn k)
  · rcases h2 with ⟨rfl, j, rfl, hj⟩ | ⟨rfl, rfl, hn2⟩
    · exact absurd hj (hn j)
    · exact ⟨rfl, rfl⟩
set_option maxRecDepth 100000 in
set_option maxHeartbeats 4000000 in
theorem ldo_0 (H : LPB n w g b q L c L c S vq u) (hL : L.length ≤ 1000) (N MM cl sq kk id mt : Int) (dt : ByteArray) (hd : dt.size ≤ maxLen) :
    Calls Try.prog 14 #[.pointer (some ⟨g, 0, none⟩), .pointer (some ⟨b, 0, none⟩), .agg #[.int .i64 0, .int .i64 N, .int .i64 MM, .int .i64 cl, .int .i64 sq, .int .i64 kk, .int .i64 id, .int .i64 mt, .string dt]] u (StepR n w g b q (L.length + 1)) := by
  obtain ⟨hok, hcl, hq1, hq2⟩ := H.lo.ok
  have hL1 : L.length ≤ 100000 := by omega
  have hnu := H.lo.size
  obtain ⟨B, hB⟩ : ∃ B, B = u.heap.size := ⟨_, rfl⟩
  obtain ⟨u1, hu1⟩ : ∃ u1, u1 = u.alloc (.cells #[.int .i64 0, .int .i64 N, .int .i64 MM, .int .i64 cl, .int .i64 sq, .int .i64 kk, .int .i64 id, .int .i64 mt, .string dt] 36) := ⟨_, rfl⟩
  have H1 : Hid (LPO n w g b q L c L c S vq B 0 N MM cl sq kk id mt dt u1) := by rw [hu1, hB]; exact .new H
  obtain ⟨L', p, x, hV⟩ : ∃ L' p x, lputV L ⟨cl, sq, kk, id, mt, dt⟩ = (L', p, x) := ⟨_, _, _, rfl⟩
  have hle := lputV_len L ⟨cl, sq, kk, id, mt, dt⟩
  rw [hV] at hle
  have hle2 := hle.2
  simp only at hle2
  have HP : Hid (∀ u, LPO n w g b q L c L c S vq B 0 N MM cl sq kk id mt dt u → Calls Try.prog 19 #[.pointer (some ⟨g, 0, none⟩), .agg #[.int .i64 cl, .int .i64 sq, .int .i64 kk, .int .i64 id, .int .i64 mt, .string dt]] u fun e w' => e = .returned (.tuple #[.int .i64 p, .int .i64 x]) ∧ ∃ S', Hid (LPO n w g b q L' c L c S' vq B 0 N MM cl sq kk id mt dt w')) := fun u hu =>
    (hu.p.lo.put hL1 cl sq kk id mt dt hd L' p x hV).mono fun _ _ ⟨he, S', t⟩ => ⟨he, S', hu.turnA t⟩
  have HQ : Hid (∀ S u, LPO n w g b q L' c L c S vq B 0 N MM cl sq kk id mt dt u → Calls Try.prog 47 #[.pointer (some ⟨b, 0, none⟩), .agg #[.int .i64 cl, .int .i64 sq, .int .i64 kk, .int .i64 id, .int .i64 mt, .string dt]] u fun e w' => e = .returned (.tuple #[.int .i64 p, .int .i64 x]) ∧ ∃ vq', Hid (LPO n w g b q L' c L' c S vq' B 0 N MM cl sq kk id mt dt w')) := fun S u hu =>
    (qlput_r hu.p.rf hu.p.lo.size hL1 hok cl sq kk id mt dt hd L' p x hV).mono fun _ _ ⟨he, vq', h1, h2, h3⟩ => ⟨he, vq', hu.turnB h1 h2 h3⟩
  clear hV hok hle hcl hq1 hq2 hd
  have HU := Lib.hid hu1
  have HB := Lib.hid hB
  clear H hu1 hB hnu
  obtain ⟨x0, x1, x2, x3, x4, x5, x6, x7, x8⟩ := H1.out.op.cells
  go_enter Try.func14, Try.ntmps14
  go_upto_region 1 with fail
  rw [← HU.out, ← HB.out]
  clear HU HB
  go_wp2_with fail
  refine (HP.out _ H1.out).mono ?_
  rintro e w2 ⟨rfl, S2, H2⟩
  clear x0 x1 x2 x3 x4 x5 x6 x7 x8 H1
  obtain ⟨x0, x1, x2, x3, x4, x5, x6, x7, x8⟩ := H2.out.op.cells
  go_wp2_with fail
  refine (HQ.out _ _ H2.out).mono ?_
  rintro e w3 ⟨rfl, vq3, H3⟩
  clear x0 x1 x2 x3 x4 x5 x6 x7 x8 H2
  have HE := Lib.hid H3.out.p
  clear H3
  go_wp2
  go_returns
  exact ⟨rfl, L', c, S2, vq3, hle2, HE⟩
set_option maxRecDepth 100000 in
set_option maxHeartbeats 4000000 in
theorem ldo_1 (H : LPB n w g b q L c L c S vq u) (hL : L.length ≤ 1000) (N MM cl sq kk id mt : Int) (dt : ByteArray) (hd : dt.size ≤ maxLen) (hN : Hid (1 ≤ N → wrap64 (N - 1) = N - 1)) :
    Calls Try.prog 14 #[.pointer (some ⟨g, 0, none⟩), .pointer (some ⟨b, 0, none⟩), .agg #[.int .i64 1, .int .i64 N, .int .i64 MM, .int .i64 cl, .int .i64 sq, .int .i64 kk, .int .i64 id, .int .i64 mt, .string dt]] u (StepR n w g b q (L.length + 1)) := by
  obtain ⟨hok, hcl, hq1, hq2⟩ := H.lo.ok
  have hL1 : L.length ≤ 100000 := by omega
  have hnu := H.lo.size
  obtain ⟨B, hB⟩ : ∃ B, B = u.heap.size := ⟨_, rfl⟩
  obtain ⟨u1, hu1⟩ : ∃ u1, u1 = u.alloc (.cells #[.int .i64 1, .int .i64 N, .int .i64 MM, .int .i64 cl, .int .i64 sq, .int .i64 kk, .int .i64 id, .int .i64 mt, .string dt] 36) := ⟨_, rfl⟩
  have H1 : Hid (LPO n w g b q L c L c S vq B 1 N MM cl sq kk id mt dt u1) := by rw [hu1, hB]; exact .new H
  obtain ⟨L', p, x, hV⟩ : ∃ L' p x, lputV L ⟨cl, sq, kk, id, mt, dt⟩ = (L', p, x) := ⟨_, _, _, rfl⟩
  have hle := lputV_len L ⟨cl, sq, kk, id, mt, dt⟩
  rw [hV] at hle
  have hle2 := hle.2
  simp only at hle2
  obtain ⟨m, hm⟩ : ∃ m, m = L.length := ⟨_, rfl⟩
  obtain ⟨a, cap, hvq⟩ := H.rf.shape
  rw [← hm] at hvq
  have HT : Hid (∀ at_ : Int, (at_ = N ∨ at_ = (m : Int) + 1) → ∃ L2 e2, L2.length ≤ L.length + 1 ∧ (∀ u, LPO n w g b q L c L c S vq B 1 N MM cl sq kk id mt dt u → Calls Try.prog 20 #[.pointer (some ⟨g, 0, none⟩), .int .i64 at_, .agg #[.int .i64 cl, .int .i64 sq, .int .i64 kk, .int .i64 id, .int .i64 mt, .string dt]] u fun e w' => e = .returned (.int .i64 e2) ∧ ∃ S', Hid (LPO n w g b q L2 c L c S' vq B 1 N MM cl sq kk id mt dt w')) ∧ (∀ S u, LPO n w g b q L2 c L c S vq B 1 N MM cl sq kk id mt dt u → Calls Try.prog 48 #[.pointer (some ⟨b, 0, none⟩), .int .i64 at_, .agg #[.int .i64 cl, .int .i64 sq, .int .i64 kk, .int .i64 id, .int .i64 mt, .string dt]] u fun e w' => e = .returned (.int .i64 e2) ∧ ∃ vq', Hid (LPO n w g b q L2 c L2 c S vq' B 1 N MM cl sq kk id mt dt w'))) := fun at_ hat => by
    by_cases e : at_ = (m : Int) + 1
    · subst e
      refine ⟨L', x, hle2, fun u hu => ?_, fun S u hu => ?_⟩
      · rw [hm]; exact (hu.p.lo.takeYes hL1 cl sq kk id mt dt hd L' p x hV).mono fun _ _ ⟨he, S', t⟩ => ⟨he, S', hu.turnA t⟩
      · rw [hm]; exact (qltake_yes hu.p.rf hu.p.lo.size hL1 hok cl sq kk id mt dt hd L' p x hV).mono fun _ _ ⟨he, vq', h1, h2, h3⟩ => ⟨he, vq', hu.turnB h1 h2 h3⟩
    · have eN : at_ = N := by omega
      subst eN
      refine ⟨L, 9, by omega, fun u hu => ?_, fun S u hu => ?_⟩
      · exact (hu.p.lo.takeNo hL1 at_ (by rw [← hm]; exact e) cl sq kk id mt dt).mono fun _ _ ⟨he, hb⟩ => ⟨he, S, hu.on hb⟩
      · exact (qltake_no hu.p.rf at_ hN (by rw [← hm]; exact e) cl sq kk id mt dt).mono fun _ _ ⟨he, vq', h1, h2, h3⟩ => ⟨he, vq', hu.turnB h1 h2 h3⟩
  have hz : u1.cell? ⟨b, 1, none⟩ = some (.slice a m cap) := by have h := H1.out.p.rf.cells.2.1; rw [h, hvq]
  have hm1 : m ≤ 1000 := by omega
  have HMM := Lib.hid hm
  clear hV hok hle hcl hq1 hq2 hd hN hvq hle2 hm
  have HU := Lib.hid hu1
  have HB := Lib.hid hB
  clear H hu1 hB hnu
  obtain ⟨x0, x1, x2, x3, x4, x5, x6, x7, x8⟩ := H1.out.op.cells
  go_enter Try.func14, Try.ntmps14
  go_upto_region 1 with fail
  rw [← HU.out, ← HB.out]
  clear HU HB
  go_upto_if 58 with fail
  go_cut [11] (fun s11 wc => ∃ at_ : Int, s11 = .int .i64 at_ ∧ Hid (at_ = N ∨ at_ = (m : Int) + 1) ∧ wc = u1)
  case first =>
    cases hbit : (bits .and .i64 MM 1 == 0) with
    | true =>
      go_wp2
      go_meet
      exact ⟨_, rfl, .inr rfl, rfl⟩
    | false =>
      go_wp2
      go_meet
      exact ⟨_, rfl, .inl rfl, rfl⟩
  case rest =>
  obtain ⟨at_, rfl, hat, rfl⟩ := hcut
  obtain ⟨L2, e2, hl2, HT1, HT2⟩ := HT.out at_ hat.out
  have HP := Lib.hid HT1
  have HQ := Lib.hid HT2
  clear HT HT1 HT2 hat hz x0 x1 x2 x3 x4 x5 x6 x7 x8
  go_upto_region 10 with fail
  obtain ⟨w2, hw2⟩ : ∃ w2, w2 = wc.drew := ⟨_, rfl⟩
  have H2d : Hid (LPO n w g b q L c L c S vq B 1 N MM cl sq kk id mt dt w2) := by rw [hw2]; exact H1.out.on ⟨rfl, rfl, rfl, Nat.le_refl _, fun _ _ => rfl⟩
  refine wp_region_held_drew (S := fun u => OpB18 u B 1 N MM cl sq kk id mt dt) (by kernel_rfl) (H1.out.op) (fun hHeld => ?_)
  first
    | (refine held_take 0 65 (v := ?_) rfl rfl (by kernel_rfl) (by kernel_rfl) (by kernel_rfl) (fun _ _ _ h => h) (by assumption) (by rfl) ?_ ?_; rotate_left; (focus (intro w hSw; (obtain ⟨x0, x1, x2, x3, x4, x5, x6, x7, x8⟩ := hSw.cells); go_simp <;> with_reducible rfl)))
    | refine held_pass 0 65 rfl rfl (by kernel_rfl) (by kernel_rfl) (by kernel_rfl) (fun _ _ _ h => h) (by assumption) (by rfl) ?_
  simp only [Act.put, List.setIfInBounds_toArray, List.set_cons_zero, List.set_cons_succ]
  first
    | (refine held_take 1 66 (v := ?_) rfl rfl (by kernel_rfl) (by kernel_rfl) (by kernel_rfl) (fun _ _ _ h => h) (by assumption) (by rfl) ?_ ?_; rotate_left; (focus (intro w hSw; (obtain ⟨x0, x1, x2, x3, x4, x5, x6, x7, x8⟩ := hSw.cells); go_simp <;> with_reducible rfl)))
    | refine held_pass 1 66 rfl rfl (by kernel_rfl) (by kernel_rfl) (by kernel_rfl) (fun _ _ _ h => h) (by assumption) (by rfl) ?_
  simp only [Act.put, List.setIfInBounds_toArray, List.set_cons_zero, List.set_cons_succ]
  first
    | (refine held_take 2 67 (v := ?_) rfl rfl (by kernel_rfl) (by kernel_rfl) (by kernel_rfl) (fun _ _ _ h => h) (by assumption) (by rfl) ?_ ?_; rotate_left; (focus (intro w hSw; (obtain ⟨x0, x1, x2, x3, x4, x5, x6, x7, x8⟩ := hSw.cells); go_simp <;> with_reducible rfl)))
    | refine held_pass 2 67 rfl rfl (by kernel_rfl) (by kernel_rfl) (by kernel_rfl) (fun _ _ _ h => h) (by assumption) (by rfl) ?_
  simp only [Act.put, List.setIfInBounds_toArray, List.set_cons_zero, List.set_cons_succ]
  first
    | (refine held_take 3 68 (v := ?_) rfl rfl (by kernel_rfl) (by kernel_rfl) (by kernel_rfl) (fun _ _ _ h => h) (by assumption) (by rfl) ?_ ?_; rotate_left; (focus (intro w hSw; (obtain ⟨x0, x1, x2, x3, x4, x5, x6, x7, x8⟩ := hSw.cells); go_simp <;> with_reducible rfl)))
    | refine held_pass 3 68 rfl rfl (by kernel_rfl) (by kernel_rfl) (by kernel_rfl) (fun _ _ _ h => h) (by assumption) (by rfl) ?_
  simp only [Act.put, List.setIfInBounds_toArray, List.set_cons_zero, List.set_cons_succ]
  first
    | (refine held_take 5 70 (v := ?_) rfl rfl (by kernel_rfl) (by kernel_rfl) (by kernel_rfl) (fun _ _ _ h => h) (by assumption) (by rfl) ?_ ?_; rotate_left; (focus (intro w hSw; (obtain ⟨x0, x1, x2, x3, x4, x5, x6, x7, x8⟩ := hSw.cells); go_simp <;> with_reducible rfl)))
    | refine held_pass 5 70 rfl rfl (by kernel_rfl) (by kernel_rfl) (by kernel_rfl) (fun _ _ _ h => h) (by assumption) (by rfl) ?_
  simp only [Act.put, List.setIfInBounds_toArray, List.set_cons_zero, List.set_cons_succ]
  first
    | (refine held_take 6 71 (v := ?_) rfl rfl (by kernel_rfl) (by kernel_rfl) (by kernel_rfl) (fun _ _ _ h => h) (by assumption) (by rfl) ?_ ?_; rotate_left; (focus (intro w hSw; (obtain ⟨x0, x1, x2, x3, x4, x5, x6, x7, x8⟩ := hSw.cells); go_simp <;> with_reducible rfl)))
    | refine held_pass 6 71 rfl rfl (by kernel_rfl) (by kernel_rfl) (by kernel_rfl) (fun _ _ _ h => h) (by assumption) (by rfl) ?_
  simp only [Act.put, List.setIfInBounds_toArray, List.set_cons_zero, List.set_cons_succ]
  first
    | (refine held_take 7 72 (v := ?_) rfl rfl (by kernel_rfl) (by kernel_rfl) (by kernel_rfl) (fun _ _ _ h => h) (by assumption) (by rfl) ?_ ?_; rotate_left; (focus (intro w hSw; (obtain ⟨x0, x1, x2, x3, x4, x5, x6, x7, x8⟩ := hSw.cells); go_simp <;> with_reducible rfl)))
    | refine held_pass 7 72 rfl rfl (by kernel_rfl) (by kernel_rfl) (by kernel_rfl) (fun _ _ _ h => h) (by assumption) (by rfl) ?_
  simp only [Act.put, List.setIfInBounds_toArray, List.set_cons_zero, List.set_cons_succ]
  first
    | (refine held_take 8 73 (v := ?_) rfl rfl (by kernel_rfl) (by kernel_rfl) (by kernel_rfl) (fun _ _ _ h => h) (by assumption) (by rfl) ?_ ?_; rotate_left; (focus (intro w hSw; (obtain ⟨x0, x1, x2, x3, x4, x5, x6, x7, x8⟩ := hSw.cells); go_simp <;> with_reducible rfl)))
    | refine held_pass 8 73 rfl rfl (by kernel_rfl) (by kernel_rfl) (by kernel_rfl) (fun _ _ _ h => h) (by assumption) (by rfl) ?_
  simp only [Act.put, List.setIfInBounds_toArray, List.set_cons_zero, List.set_cons_succ]
  refine held_call 4 69 rfl rfl (by kernel_rfl) (by rfl) (fun K hK => ?_)
  simp only [Go.wp_at_succ, Go.wp_at_zero]
  go_simp
  go_at_call 20
  rw [← hw2]
  (with_reducible refine (HP.out _ H2d.out).mono ?_)
  rintro e u2 ⟨rfl, S2, H2⟩
  first | (with_reducible refine hK.out _ _ ?_ (fun hHeld => ?_)) | (go_wp2_with fail; refine hK.out _ _ ?_ (fun hHeld => ?_))
  · exact H2.out.op
  clear hK K
  try simp only [Act.put, List.setIfInBounds_toArray, List.set_cons_zero, List.set_cons_succ]
  refine held_call 9 74 rfl rfl (by kernel_rfl) (by rfl) (fun K hK => ?_)
  simp only [Go.wp_at_succ, Go.wp_at_zero]
  go_simp
  go_at_call 48
  (with_reducible refine (HQ.out _ _ H2.out).mono ?_)
  rintro e u3 ⟨rfl, vq3, H3⟩
  first | (with_reducible refine hK.out _ _ ?_ (fun hHeld => ?_)) | (go_wp2_with fail; refine hK.out _ _ ?_ (fun hHeld => ?_))
  · exact H3.out.op
  clear hK K
  try simp only [Act.put, List.setIfInBounds_toArray, List.set_cons_zero, List.set_cons_succ]
  first
    | (refine held_take 10 75 (v := ?_) rfl rfl (by kernel_rfl) (by kernel_rfl) (by kernel_rfl) (fun _ _ _ h => h) (by assumption) (by rfl) ?_ ?_; rotate_left; (focus (intro w hSw; (obtain ⟨x0, x1, x2, x3, x4, x5, x6, x7, x8⟩ := hSw.cells); go_simp <;> with_reducible rfl)))
    | refine held_pass 10 75 rfl rfl (by kernel_rfl) (by kernel_rfl) (by kernel_rfl) (fun _ _ _ h => h) (by assumption) (by rfl) ?_
  simp only [Act.put, List.setIfInBounds_toArray, List.set_cons_zero, List.set_cons_succ]
  first
    | (refine held_take 11 6 (v := ?_) rfl rfl (by kernel_rfl) (by kernel_rfl) (by kernel_rfl) (fun _ _ _ h => h) (by assumption) (by rfl) ?_ ?_; rotate_left; (focus (intro w hSw; (obtain ⟨x0, x1, x2, x3, x4, x5, x6, x7, x8⟩ := hSw.cells); go_simp <;> with_reducible rfl)))
    | refine held_pass 11 6 rfl rfl (by kernel_rfl) (by kernel_rfl) (by kernel_rfl) (fun _ _ _ h => h) (by assumption) (by rfl) ?_
  simp only [Act.put, List.setIfInBounds_toArray, List.set_cons_zero, List.set_cons_succ]
  refine wpAnyH_done (by kernel_rfl) ?_ _
  have HE := Lib.hid H3.out.p
  clear H3 H2 H2d
  go_wp2
  go_returns
  exact ⟨by simp, L2, c, S2, vq3, hl2, HE⟩
set_option maxRecDepth 100000 in
set_option maxHeartbeats 4000000 in
theorem ldo_2 (H : LPB n w g b q L c L c S vq u) (hL : L.length ≤ 1000) (N MM cl sq kk id mt : Int) (dt : ByteArray) :
    Calls Try.prog 14 #[.pointer (some ⟨g, 0, none⟩), .pointer (some ⟨b, 0, none⟩), .agg #[.int .i64 2, .int .i64 N, .int .i64 MM, .int .i64 cl, .int .i64 sq, .int .i64 kk, .int .i64 id, .int .i64 mt, .string dt]] u (StepR n w g b q (L.length + 1)) := by
  obtain ⟨hok, hcl, hq1, hq2⟩ := H.lo.ok
  have hL1 : L.length ≤ 100000 := by omega
  have hnu := H.lo.size
  obtain ⟨B, hB⟩ : ∃ B, B = u.heap.size := ⟨_, rfl⟩
  obtain ⟨u1, hu1⟩ : ∃ u1, u1 = u.alloc (.cells #[.int .i64 2, .int .i64 N, .int .i64 MM, .int .i64 cl, .int .i64 sq, .int .i64 kk, .int .i64 id, .int .i64 mt, .string dt] 36) := ⟨_, rfl⟩
  have H1 : Hid (LPO n w g b q L c L c S vq B 2 N MM cl sq kk id mt dt u1) := by rw [hu1, hB]; exact .new H
  obtain ⟨m, hm⟩ : ∃ m, m = L.length := ⟨_, rfl⟩
  obtain ⟨a, cap, hvq⟩ := H.rf.shape
  rw [← hm] at hvq
  have HY : Hid (∀ c' : Nat, c ≤ c' → c' ≤ m → ∀ u, LPO n w g b q L c L c S vq B 2 N MM cl sq kk id mt dt u → Calls Try.prog 21 #[.pointer (some ⟨g, 0, none⟩), .int .i64 c'] u fun e w' => e = .returned (.int .i64 0) ∧ ∃ S', Hid (LPO n w g b q L c' L c S' vq B 2 N MM cl sq kk id mt dt w')) := fun c' h1 h2 u hu =>
    (hu.p.lo.comYes hL1 c' h1 (by rw [← hm]; exact h2)).mono fun _ _ ⟨he, S', t⟩ => ⟨he, S', hu.turnA t⟩
  have HN : Hid (∀ X : Int, (X < c ∨ (m : Int) < X) → ∀ u, LPO n w g b q L c L c S vq B 2 N MM cl sq kk id mt dt u → Calls Try.prog 21 #[.pointer (some ⟨g, 0, none⟩), .int .i64 X] u fun e w' => e = .returned (.int .i64 6) ∧ Hid (LPO n w g b q L c L c S vq B 2 N MM cl sq kk id mt dt w')) := fun X h u hu =>
    (hu.p.lo.comNo X (by rw [← hm]; exact h)).mono fun _ _ ⟨he, hb⟩ => ⟨he, hu.on hb⟩
  have HZ : Hid (∀ (c1 : Nat) S u, LPO n w g b q L c1 L c S vq B 2 N MM cl sq kk id mt dt u → u.cell? ⟨b, 1, none⟩ = some (.slice a m cap) ∧ u.cell? ⟨b, 2, none⟩ = some (.int .i64 c) ∧ u.frozen? ⟨b, 2, none⟩ = false) := fun c1 S u hu => by
    have h := hu.p.rf.cells
    rw [hvq] at h
    exact ⟨h.2.1, h.2.2, by have hb := hu.p.rf.blk; simp [World.frozen?, hb]⟩
  have hm1 : m ≤ 1000 := by omega
  have HMM := Lib.hid hm
  have hcm : c ≤ m := by omega
  clear hok hcl hq1 hq2 hvq hm
  have HU := Lib.hid hu1
  have HB := Lib.hid hB
  clear H hu1 hB hnu
  obtain ⟨x0, x1, x2, x3, x4, x5, x6, x7, x8⟩ := H1.out.op.cells
  go_enter Try.func14, Try.ntmps14
  go_upto_region 1 with fail
  rw [← HU.out, ← HB.out]
  clear HU HB
  obtain ⟨z1, z2, _⟩ := HZ.out c S u1 H1.out
  go_upto_if 83 with fail
  go_cut [12] (fun s12 wc => ∃ X : Int, s12 = .int .i64 X ∧ Hid (LPO n w g b q L c L c S vq B 2 N MM cl sq kk id mt dt wc))
  case first =>
    cases hbit : (bits .and .i64 MM 1 == 0) with
    | true =>
      go_upto_region 14 with fail
      have e1 : IntKind.i64.wrap ((m : Int) - (c : Int)) = (m : Int) - (c : Int) := by rw [IntKind.wrap_i64]; omega
      have e2 : IntKind.i64.wrap ((m : Int) - (c : Int) + 1) = (m : Int) - (c : Int) + 1 := by rw [IntKind.wrap_i64]; omega
      have e3 : IntKind.u64.wrap ((m : Int) - (c : Int) + 1) = (m : Int) - (c : Int) + 1 := by rw [IntKind.wrap_u64]; omega
      have e4 : ((m : Int) - (c : Int) + 1 == 0) = false := by rw [beq_eq_false_iff_ne]; omega
      go_quiet (fail)
      go_wp2
      go_meet
      exact ⟨_, rfl, H1.out.on ⟨rfl, rfl, rfl, Nat.le_refl _, fun _ _ => rfl⟩⟩
    | false =>
      go_wp2
      go_meet
      exact ⟨_, rfl, H1⟩
  case rest =>
  obtain ⟨X, rfl, H2⟩ := hcut
  clear H1 z1 z2 x0 x1 x2 x3 x4 x5 x6 x7 x8
  by_cases hX : (c : Int) ≤ X ∧ X ≤ (m : Int)
  · obtain ⟨c2, rfl⟩ : ∃ c2 : Nat, X = c2 := ⟨X.toNat, by omega⟩
    have h1 : (c : Int) ≤ (c2 : Int) := hX.1
    have h2 : (c2 : Int) ≤ (m : Int) := hX.2
    have HC := Lib.hid (HY.out c2 (by omega) (by omega))
    clear hX HY HN
    go_wp2_with fail
    refine (HC.out _ H2.out).mono ?_
    rintro e w3 ⟨rfl, S3, H3⟩
    clear H2 HC
    obtain ⟨z1, z2, z3⟩ := HZ.out c2 S3 w3 H3.out
    have hlt := H3.out.p.rf.cut
    go_wp2
    have HE := Lib.hid (H3.out.commit c2).p
    clear H3 z1 z2 z3 hlt
    go_returns
    exact ⟨by simp, L, c2, S3, vq, by omega, HE⟩
  · have HC := Lib.hid (HN.out X (by omega))
    clear HY HN
    go_wp2_with fail
    refine (HC.out _ H2.out).mono ?_
    rintro e w3 ⟨rfl, H3⟩
    clear H2 HC
    obtain ⟨z1, z2, _⟩ := HZ.out c S w3 H3.out
    have HE := Lib.hid H3.out.p
    clear H3
    by_cases h1 : X < (c : Int)
    · have h3 : ¬ (c : Int) ≤ X := by omega
      clear hX
      go_wp2
      go_returns
      exact ⟨by simp <;> omega, L, c, S, vq, by omega, HE⟩
    · have h3 : (c : Int) ≤ X := by omega
      have h4 : ¬ X ≤ (m : Int) := by omega
      clear hX h1
      go_wp2
      go_returns
      exact ⟨by simp <;> omega, L, c, S, vq, by omega, HE⟩
set_option maxRecDepth 100000 in
set_option maxHeartbeats 4000000 in
theorem ldo_3 (H : LPB n w g b q L c L c S vq u) (hL : L.length ≤ 1000) (N MM cl sq kk id mt : Int) (dt : ByteArray) :
    Calls Try.prog 14 #[.pointer (some ⟨g, 0, none⟩), .pointer (some ⟨b, 0, none⟩), .agg #[.int .i64 3, .int .i64 N, .int .i64 MM, .int .i64 cl, .int .i64 sq, .int .i64 kk, .int .i64 id, .int .i64 mt, .string dt]] u (StepR n w g b q (L.length + 1)) := by
  obtain ⟨hok, hcl, hq1, hq2⟩ := H.lo.ok
  have hL1 : L.length ≤ 100000 := by omega
  have hnu := H.lo.size
  obtain ⟨B, hB⟩ : ∃ B, B = u.heap.size := ⟨_, rfl⟩
  obtain ⟨u1, hu1⟩ : ∃ u1, u1 = u.alloc (.cells #[.int .i64 3, .int .i64 N, .int .i64 MM, .int .i64 cl, .int .i64 sq, .int .i64 kk, .int .i64 id, .int .i64 mt, .string dt] 36) := ⟨_, rfl⟩
  have H1 : Hid (LPO n w g b q L c L c S vq B 3 N MM cl sq kk id mt dt u1) := by rw [hu1, hB]; exact .new H
  obtain ⟨Q, m, hm, hm1, hA, hQ⟩ : ∃ (Q : List ReqV) (m : Nat), m = Q.length ∧ m ≤ 1000000 ∧ (∀ u, LPO n w g b q L c L c S vq B 3 N MM cl sq kk id mt dt u → Calls Try.prog 18 #[.pointer (some ⟨g, 0, none⟩), .int .i64 N, .int .i64 MM] u (fun e w' => ∃ a cp, e = .returned (.slice a m cp) ∧ Hid (AllAt (.slice a m cp) Q w') ∧ Hid (LPO n w g b q L c L c S vq B 3 N MM cl sq kk id mt dt w') ∧ Below u.heap.size u w')) ∧ (∀ u, LPO n w g b q L c L c S vq B 3 N MM cl sq kk id mt dt u → Calls Try.prog 49 #[.pointer (some ⟨b, 0, none⟩), .int .i64 N, .int .i64 MM] u (fun e w' => ∃ a cp, e = .returned (.slice a m cp) ∧ Hid (AllAt (.slice a m cp) Q w') ∧ Hid (LPO n w g b q L c L c S vq B 3 N MM cl sq kk id mt dt w') ∧ Below u.heap.size u w')) := by
    by_cases hN : N < 0
    · refine ⟨[], 0, rfl, by omega, fun u hu => (lsince_neg _ N MM hN u).mono fun e w' ⟨he, hw⟩ => ⟨none, 0, he, (fun k hk => by simp at hk), hw ▸ hu, hw ▸ Below.refl _ _⟩, fun u hu => (qlsince_neg hu.p.rf N hN MM).mono fun e w' ⟨he, hw⟩ => ⟨none, 0, he, (fun k hk => by simp at hk), hw ▸ hu, hw ▸ Below.refl _ _⟩⟩
    · obtain ⟨k, rfl⟩ : ∃ k : Nat, N = k := ⟨N.toNat, by omega⟩
      refine ⟨comeQ L k (cntQ L k MM), _, rfl, ?_, fun u hu => (hu.p.lo.since hL1 k MM).mono fun e w' ⟨v, he, hr, hb⟩ => ?_, fun u hu => (qlsince_r hu.p.rf hL1 k MM).mono fun e w' ⟨v, he, hr, hb⟩ => ?_⟩
      · unfold comeQ; rw [List.length_take, List.length_drop]; omega
      · obtain ⟨a, cp, rfl⟩ := own_shape hr
        exact ⟨a, cp, he, .of hr, hu.on hb, hb⟩
      · obtain ⟨a, cp, rfl⟩ := own_shape hr
        exact ⟨a, cp, he, .of hr, hu.on hb, hb⟩
  have HA := Lib.hid hA
  have HQ := Lib.hid hQ
  have HQB : Hid (∀ a1 cp1 u, LPO n w g b q L c L c S vq B 3 N MM cl sq kk id mt dt u → AllAt (.slice a1 m cp1) Q u → Calls Try.prog 49 #[.pointer (some ⟨b, 0, none⟩), .int .i64 N, .int .i64 MM] u fun e w' => ∃ a cp, e = .returned (.slice a m cp) ∧ Hid (AllAt (.slice a m cp) Q w') ∧ Hid (AllAt (.slice a1 m cp1) Q w') ∧ Hid (LPO n w g b q L c L c S vq B 3 N MM cl sq kk id mt dt w')) := fun a1 cp1 u hu h1 => (hQ u hu).mono fun e w' ⟨a, cp, he, hA, hL, hb⟩ => ⟨a, cp, he, hA, h1.on hb, hL⟩
  have HM := Lib.hid hm
  clear hA hQ hm hok hcl hq1 hq2
  have HU := Lib.hid hu1
  have HB := Lib.hid hB
  clear H hu1 hB hnu
  obtain ⟨x0, x1, x2, x3, x4, x5, x6, x7, x8⟩ := H1.out.op.cells
  go_enter Try.func14, Try.ntmps14
  go_upto_region 1 with fail
  rw [← HU.out, ← HB.out]
  clear HU HB
  go_upto_region 21 with fail
  clear x0 x1 x2 x3 x4 x5 x6 x7 x8
  obtain ⟨w2, hw2⟩ : ∃ w2, w2 = u1.drew := ⟨_, rfl⟩
  have H2d : Hid (LPO n w g b q L c L c S vq B 3 N MM cl sq kk id mt dt w2) := by rw [hw2]; exact H1.out.on ⟨rfl, rfl, rfl, Nat.le_refl _, fun _ _ => rfl⟩
  refine wp_region_held_drew (S := fun u => OpB18 u B 3 N MM cl sq kk id mt dt) (by kernel_rfl) (H1.out.op) (fun hHeld => ?_)
  first
    | (refine held_take 0 144 (v := ?_) rfl rfl (by kernel_rfl) (by kernel_rfl) (by kernel_rfl) (fun _ _ _ h => h) (by assumption) (by rfl) ?_ ?_; rotate_left; (focus (intro w hSw; (obtain ⟨x0, x1, x2, x3, x4, x5, x6, x7, x8⟩ := hSw.cells); go_simp <;> with_reducible rfl)))
    | refine held_pass 0 144 rfl rfl (by kernel_rfl) (by kernel_rfl) (by kernel_rfl) (fun _ _ _ h => h) (by assumption) (by rfl) ?_
  simp only [Act.put, List.setIfInBounds_toArray, List.set_cons_zero, List.set_cons_succ]
  first
    | (refine held_take 1 145 (v := ?_) rfl rfl (by kernel_rfl) (by kernel_rfl) (by kernel_rfl) (fun _ _ _ h => h) (by assumption) (by rfl) ?_ ?_; rotate_left; (focus (intro w hSw; (obtain ⟨x0, x1, x2, x3, x4, x5, x6, x7, x8⟩ := hSw.cells); go_simp <;> with_reducible rfl)))
    | refine held_pass 1 145 rfl rfl (by kernel_rfl) (by kernel_rfl) (by kernel_rfl) (fun _ _ _ h => h) (by assumption) (by rfl) ?_
  simp only [Act.put, List.setIfInBounds_toArray, List.set_cons_zero, List.set_cons_succ]
  first
    | (refine held_take 2 146 (v := ?_) rfl rfl (by kernel_rfl) (by kernel_rfl) (by kernel_rfl) (fun _ _ _ h => h) (by assumption) (by rfl) ?_ ?_; rotate_left; (focus (intro w hSw; (obtain ⟨x0, x1, x2, x3, x4, x5, x6, x7, x8⟩ := hSw.cells); go_simp <;> with_reducible rfl)))
    | refine held_pass 2 146 rfl rfl (by kernel_rfl) (by kernel_rfl) (by kernel_rfl) (fun _ _ _ h => h) (by assumption) (by rfl) ?_
  simp only [Act.put, List.setIfInBounds_toArray, List.set_cons_zero, List.set_cons_succ]
  first
    | (refine held_take 3 147 (v := ?_) rfl rfl (by kernel_rfl) (by kernel_rfl) (by kernel_rfl) (fun _ _ _ h => h) (by assumption) (by rfl) ?_ ?_; rotate_left; (focus (intro w hSw; (obtain ⟨x0, x1, x2, x3, x4, x5, x6, x7, x8⟩ := hSw.cells); go_simp <;> with_reducible rfl)))
    | refine held_pass 3 147 rfl rfl (by kernel_rfl) (by kernel_rfl) (by kernel_rfl) (fun _ _ _ h => h) (by assumption) (by rfl) ?_
  simp only [Act.put, List.setIfInBounds_toArray, List.set_cons_zero, List.set_cons_succ]
  first
    | (refine held_take 4 148 (v := ?_) rfl rfl (by kernel_rfl) (by kernel_rfl) (by kernel_rfl) (fun _ _ _ h => h) (by assumption) (by rfl) ?_ ?_; rotate_left; (focus (intro w hSw; (obtain ⟨x0, x1, x2, x3, x4, x5, x6, x7, x8⟩ := hSw.cells); go_simp <;> with_reducible rfl)))
    | refine held_pass 4 148 rfl rfl (by kernel_rfl) (by kernel_rfl) (by kernel_rfl) (fun _ _ _ h => h) (by assumption) (by rfl) ?_
  simp only [Act.put, List.setIfInBounds_toArray, List.set_cons_zero, List.set_cons_succ]
  first
    | (refine held_take 6 150 (v := ?_) rfl rfl (by kernel_rfl) (by kernel_rfl) (by kernel_rfl) (fun _ _ _ h => h) (by assumption) (by rfl) ?_ ?_; rotate_left; (focus (intro w hSw; (obtain ⟨x0, x1, x2, x3, x4, x5, x6, x7, x8⟩ := hSw.cells); go_simp <;> with_reducible rfl)))
    | refine held_pass 6 150 rfl rfl (by kernel_rfl) (by kernel_rfl) (by kernel_rfl) (fun _ _ _ h => h) (by assumption) (by rfl) ?_
  simp only [Act.put, List.setIfInBounds_toArray, List.set_cons_zero, List.set_cons_succ]
  first
    | (refine held_take 7 151 (v := ?_) rfl rfl (by kernel_rfl) (by kernel_rfl) (by kernel_rfl) (fun _ _ _ h => h) (by assumption) (by rfl) ?_ ?_; rotate_left; (focus (intro w hSw; (obtain ⟨x0, x1, x2, x3, x4, x5, x6, x7, x8⟩ := hSw.cells); go_simp <;> with_reducible rfl)))
    | refine held_pass 7 151 rfl rfl (by kernel_rfl) (by kernel_rfl) (by kernel_rfl) (fun _ _ _ h => h) (by assumption) (by rfl) ?_
  simp only [Act.put, List.setIfInBounds_toArray, List.set_cons_zero, List.set_cons_succ]
  first
    | (refine held_take 8 152 (v := ?_) rfl rfl (by kernel_rfl) (by kernel_rfl) (by kernel_rfl) (fun _ _ _ h => h) (by assumption) (by rfl) ?_ ?_; rotate_left; (focus (intro w hSw; (obtain ⟨x0, x1, x2, x3, x4, x5, x6, x7, x8⟩ := hSw.cells); go_simp <;> with_reducible rfl)))
    | refine held_pass 8 152 rfl rfl (by kernel_rfl) (by kernel_rfl) (by kernel_rfl) (fun _ _ _ h => h) (by assumption) (by rfl) ?_
  simp only [Act.put, List.setIfInBounds_toArray, List.set_cons_zero, List.set_cons_succ]
  first
    | (refine held_take 9 153 (v := ?_) rfl rfl (by kernel_rfl) (by kernel_rfl) (by kernel_rfl) (fun _ _ _ h => h) (by assumption) (by rfl) ?_ ?_; rotate_left; (focus (intro w hSw; (obtain ⟨x0, x1, x2, x3, x4, x5, x6, x7, x8⟩ := hSw.cells); go_simp <;> with_reducible rfl)))
    | refine held_pass 9 153 rfl rfl (by kernel_rfl) (by kernel_rfl) (by kernel_rfl) (fun _ _ _ h => h) (by assumption) (by rfl) ?_
  simp only [Act.put, List.setIfInBounds_toArray, List.set_cons_zero, List.set_cons_succ]
  first
    | (refine held_take 10 154 (v := ?_) rfl rfl (by kernel_rfl) (by kernel_rfl) (by kernel_rfl) (fun _ _ _ h => h) (by assumption) (by rfl) ?_ ?_; rotate_left; (focus (intro w hSw; (obtain ⟨x0, x1, x2, x3, x4, x5, x6, x7, x8⟩ := hSw.cells); go_simp <;> with_reducible rfl)))
    | refine held_pass 10 154 rfl rfl (by kernel_rfl) (by kernel_rfl) (by kernel_rfl) (fun _ _ _ h => h) (by assumption) (by rfl) ?_
  simp only [Act.put, List.setIfInBounds_toArray, List.set_cons_zero, List.set_cons_succ]
  refine held_call 5 149 rfl rfl (by kernel_rfl) (by rfl) (fun K hK => ?_)
  simp only [Go.wp_at_succ, Go.wp_at_zero]
  go_simp
  go_at_call 18
  rw [← hw2]
  (with_reducible refine (HA.out _ H2d.out).mono ?_)
  rintro e u2 ⟨a1, cp1, rfl, hA1, H2, _⟩
  first | (with_reducible refine hK.out _ _ ?_ (fun hHeld => ?_)) | (go_wp2_with fail; refine hK.out _ _ ?_ (fun hHeld => ?_))
  · exact H2.out.op
  clear hK K
  try simp only [Act.put, List.setIfInBounds_toArray, List.set_cons_zero, List.set_cons_succ]
  refine held_call 11 155 rfl rfl (by kernel_rfl) (by rfl) (fun K hK => ?_)
  simp only [Go.wp_at_succ, Go.wp_at_zero]
  go_simp
  go_at_call 49
  (with_reducible refine (HQB.out _ _ _ H2.out hA1.out).mono ?_)
  rintro e u3 ⟨a2, cp2, rfl, hA2, HA3, H3⟩
  first | (with_reducible refine hK.out _ _ ?_ (fun hHeld => ?_)) | (go_wp2_with fail; refine hK.out _ _ ?_ (fun hHeld => ?_))
  · exact H3.out.op
  clear hK K
  try simp only [Act.put, List.setIfInBounds_toArray, List.set_cons_zero, List.set_cons_succ]
  refine held_call 12 156 rfl rfl (by kernel_rfl) (by rfl) (fun K hK => ?_)
  simp only [Go.wp_at_succ, Go.wp_at_zero]
  go_simp
  go_at_call 17
  (with_reducible refine (refreqs_same a1 a2 m cp1 cp2 Q u3 HM.out hm1 HA3.out hA2.out).mono ?_)
  rintro e u4 ⟨rfl, hb4⟩
  have H4 := Lib.hid (H3.out.on hb4)
  clear hb4
  first | (with_reducible refine hK.out _ _ ?_ (fun hHeld => ?_)) | (go_wp2_with fail; refine hK.out _ _ ?_ (fun hHeld => ?_))
  · exact H4.out.op
  clear hK K
  try simp only [Act.put, List.setIfInBounds_toArray, List.set_cons_zero, List.set_cons_succ]
  first
    | (refine held_take 13 6 (v := ?_) rfl rfl (by kernel_rfl) (by kernel_rfl) (by kernel_rfl) (fun _ _ _ h => h) (by assumption) (by rfl) ?_ ?_; rotate_left; (focus (intro w hSw; (obtain ⟨x0, x1, x2, x3, x4, x5, x6, x7, x8⟩ := hSw.cells); go_simp <;> with_reducible rfl)))
    | refine held_pass 13 6 rfl rfl (by kernel_rfl) (by kernel_rfl) (by kernel_rfl) (fun _ _ _ h => h) (by assumption) (by rfl) ?_
  simp only [Act.put, List.setIfInBounds_toArray, List.set_cons_zero, List.set_cons_succ]
  refine wpAnyH_done (by kernel_rfl) ?_ _
  have HE := Lib.hid H4.out.p
  clear H4 H3 H2 H2d
  go_wp2
  go_returns
  exact ⟨by simp, L, c, S, vq, by omega, HE⟩
set_option maxRecDepth 100000 in
set_option maxHeartbeats 4000000 in
theorem ldo_4 (H : LPB n w g b q L c L c S vq u) (hL : L.length ≤ 1000) (N MM cl sq kk id mt : Int) (dt : ByteArray) :
    Calls Try.prog 14 #[.pointer (some ⟨g, 0, none⟩), .pointer (some ⟨b, 0, none⟩), .agg #[.int .i64 4, .int .i64 N, .int .i64 MM, .int .i64 cl, .int .i64 sq, .int .i64 kk, .int .i64 id, .int .i64 mt, .string dt]] u (StepR n w g b q (L.length + 1)) := by
  obtain ⟨hok, hcl, hq1, hq2⟩ := H.lo.ok
  have hL1 : L.length ≤ 100000 := by omega
  have hnu := H.lo.size
  obtain ⟨B, hB⟩ : ∃ B, B = u.heap.size := ⟨_, rfl⟩
  obtain ⟨u1, hu1⟩ : ∃ u1, u1 = u.alloc (.cells #[.int .i64 4, .int .i64 N, .int .i64 MM, .int .i64 cl, .int .i64 sq, .int .i64 kk, .int .i64 id, .int .i64 mt, .string dt] 36) := ⟨_, rfl⟩
  have H1 : Hid (LPO n w g b q L c L c S vq B 4 N MM cl sq kk id mt dt u1) := by rw [hu1, hB]; exact .new H
  obtain ⟨M1, hM1⟩ : ∃ M, seqV L cl = M := ⟨_, rfl⟩
  obtain ⟨M2, hM2⟩ : ∃ M, lastV18 L id = M := ⟨_, rfl⟩
  have HF : Hid (∀ u, LPO n w g b q L c L c S vq B 4 N MM cl sq kk id mt dt u → Calls Try.prog 45 #[.pointer (some ⟨g, 0, none⟩), .int .i64 cl, .int .i64 sq] u fun e w' => ∃ p f, e = .returned (.tuple #[.int .i64 p, .bool f]) ∧ Hid (FindOk L cl sq p f) ∧ Hid (LPO n w g b q L c L c S vq B 4 N MM cl sq kk id mt dt w')) := fun u hu => (hu.p.lo.find hL1 cl sq).mono fun e w' ⟨p, f, he, hf, hb⟩ => ⟨p, f, he, hf, hu.on hb⟩
  have HG : Hid (∀ p f, FindOk L cl sq p f → ∀ u, LPO n w g b q L c L c S vq B 4 N MM cl sq kk id mt dt u → Calls Try.prog 50 #[.pointer (some ⟨b, 0, none⟩), .int .i64 cl, .int .i64 sq] u fun e w' => e = .returned (.tuple #[.int .i64 p, .bool f]) ∧ Hid (LPO n w g b q L c L c S vq B 4 N MM cl sq kk id mt dt w')) := fun p f hf u hu => (qlfind_r hu.p.rf hL1 cl sq).mono fun e w' ⟨p', f', he, hf', hb⟩ => by
    obtain ⟨rfl, rfl⟩ := FindOk.one hok hf hf'
    exact ⟨he, hu.on hb⟩
  have HS : Hid (∀ u, LPO n w g b q L c L c S vq B 4 N MM cl sq kk id mt dt u → Calls Try.prog 46 #[.pointer (some ⟨g, 0, none⟩), .int .i64 cl] u fun e w' => e = .returned (.int .i64 M1) ∧ Hid (LPO n w g b q L c L c S vq B 4 N MM cl sq kk id mt dt w')) := fun u hu => (hu.p.lo.seq hL1 cl M1 hM1).mono fun e w' ⟨he, hb⟩ => ⟨he, hu.on hb⟩
  have HS2 : Hid (∀ u, LPO n w g b q L c L c S vq B 4 N MM cl sq kk id mt dt u → Calls Try.prog 51 #[.pointer (some ⟨b, 0, none⟩), .int .i64 cl] u fun e w' => e = .returned (.int .i64 M1) ∧ Hid (LPO n w g b q L c L c S vq B 4 N MM cl sq kk id mt dt w')) := fun u hu => (qlseq_r hu.p.rf hL1 cl M1 (by rw [seqR_seqV hok]; exact hM1)).mono fun e w' ⟨he, hb⟩ => ⟨he, hu.on hb⟩
  have HL : Hid (∀ u, LPO n w g b q L c L c S vq B 4 N MM cl sq kk id mt dt u → Calls Try.prog 28 #[.pointer (some ⟨g, 0, none⟩), .int .i64 id] u fun e w' => e = .returned (.int .i64 M2) ∧ u = w') := fun u hu => hu.p.lo.last id M2 hM2
  have HL2 : Hid (∀ u, LPO n w g b q L c L c S vq B 4 N MM cl sq kk id mt dt u → Calls Try.prog 52 #[.pointer (some ⟨b, 0, none⟩), .int .i64 id] u fun e w' => e = .returned (.int .i64 M2) ∧ Hid (LPO n w g b q L c L c S vq B 4 N MM cl sq kk id mt dt w')) := fun u hu => (qllast_r hu.p.rf hL1 id M2 (by rw [lastR_V hok]; exact hM2)).mono fun e w' ⟨he, hb⟩ => ⟨he, hu.on hb⟩
  clear hM1 hM2 hok hcl hq1 hq2
  have HU := Lib.hid hu1
  have HB := Lib.hid hB
  clear H hu1 hB hnu
  obtain ⟨x0, x1, x2, x3, x4, x5, x6, x7, x8⟩ := H1.out.op.cells
  go_enter Try.func14, Try.ntmps14
  go_upto_region 1 with fail
  rw [← HU.out, ← HB.out]
  clear HU HB
  go_wp2_with fail
  refine (HF.out _ H1.out).mono ?_
  rintro e w2 ⟨p, f, rfl, hf, H2⟩
  clear x0 x1 x2 x3 x4 x5 x6 x7 x8 H1
  obtain ⟨x0, x1, x2, x3, x4, x5, x6, x7, x8⟩ := H2.out.op.cells
  go_wp2_with fail
  refine (HG.out p f hf.out _ H2.out).mono ?_
  rintro e w3 ⟨rfl, H3⟩
  clear x0 x1 x2 x3 x4 x5 x6 x7 x8 H2
  go_upto_region 25 with fail
  have hff : (f == f) = true := by cases f <;> rfl
  obtain ⟨w4, hw4⟩ : ∃ w2, w2 = w3.drew := ⟨_, rfl⟩
  have H4 : Hid (LPO n w g b q L c L c S vq B 4 N MM cl sq kk id mt dt w4) := by rw [hw4]; exact H3.out.on ⟨rfl, rfl, rfl, Nat.le_refl _, fun _ _ => rfl⟩
  refine wp_region_held_drew (S := fun u => OpB18 u B 4 N MM cl sq kk id mt dt) (by kernel_rfl) (H3.out.op) (fun hHeld => ?_)
  first
    | (refine held_take 0 181 (v := ?_) rfl rfl (by kernel_rfl) (by kernel_rfl) (by kernel_rfl) (fun _ _ _ h => h) (by assumption) (by rfl) ?_ ?_; rotate_left; (focus (intro w hSw; (obtain ⟨x0, x1, x2, x3, x4, x5, x6, x7, x8⟩ := hSw.cells); go_simp <;> with_reducible rfl)))
    | refine held_pass 0 181 rfl rfl (by kernel_rfl) (by kernel_rfl) (by kernel_rfl) (fun _ _ _ h => h) (by assumption) (by rfl) ?_
  simp only [Act.put, List.setIfInBounds_toArray, List.set_cons_zero, List.set_cons_succ]
  first
    | (refine held_take 1 182 (v := ?_) rfl rfl (by kernel_rfl) (by kernel_rfl) (by kernel_rfl) (fun _ _ _ h => h) (by assumption) (by rfl) ?_ ?_; rotate_left; (focus (intro w hSw; (obtain ⟨x0, x1, x2, x3, x4, x5, x6, x7, x8⟩ := hSw.cells); go_simp <;> with_reducible rfl)))
    | refine held_pass 1 182 rfl rfl (by kernel_rfl) (by kernel_rfl) (by kernel_rfl) (fun _ _ _ h => h) (by assumption) (by rfl) ?_
  simp only [Act.put, List.setIfInBounds_toArray, List.set_cons_zero, List.set_cons_succ]
  first
    | (refine held_take 2 183 (v := ?_) rfl rfl (by kernel_rfl) (by kernel_rfl) (by kernel_rfl) (fun _ _ _ h => h) (by assumption) (by rfl) ?_ ?_; rotate_left; (focus (intro w hSw; (obtain ⟨x0, x1, x2, x3, x4, x5, x6, x7, x8⟩ := hSw.cells); go_simp <;> with_reducible rfl)))
    | refine held_pass 2 183 rfl rfl (by kernel_rfl) (by kernel_rfl) (by kernel_rfl) (fun _ _ _ h => h) (by assumption) (by rfl) ?_
  simp only [Act.put, List.setIfInBounds_toArray, List.set_cons_zero, List.set_cons_succ]
  first
    | (refine held_take 3 184 (v := ?_) rfl rfl (by kernel_rfl) (by kernel_rfl) (by kernel_rfl) (fun _ _ _ h => h) (by assumption) (by rfl) ?_ ?_; rotate_left; (focus (intro w hSw; (obtain ⟨x0, x1, x2, x3, x4, x5, x6, x7, x8⟩ := hSw.cells); go_simp <;> with_reducible rfl)))
    | refine held_pass 3 184 rfl rfl (by kernel_rfl) (by kernel_rfl) (by kernel_rfl) (fun _ _ _ h => h) (by assumption) (by rfl) ?_
  simp only [Act.put, List.setIfInBounds_toArray, List.set_cons_zero, List.set_cons_succ]
  first
    | (refine held_take 4 185 (v := ?_) rfl rfl (by kernel_rfl) (by kernel_rfl) (by kernel_rfl) (fun _ _ _ h => h) (by assumption) (by rfl) ?_ ?_; rotate_left; (focus (intro w hSw; (obtain ⟨x0, x1, x2, x3, x4, x5, x6, x7, x8⟩ := hSw.cells); go_simp <;> with_reducible rfl)))
    | refine held_pass 4 185 rfl rfl (by kernel_rfl) (by kernel_rfl) (by kernel_rfl) (fun _ _ _ h => h) (by assumption) (by rfl) ?_
  simp only [Act.put, List.setIfInBounds_toArray, List.set_cons_zero, List.set_cons_succ]
  first
    | (refine held_take 5 186 (v := ?_) rfl rfl (by kernel_rfl) (by kernel_rfl) (by kernel_rfl) (fun _ _ _ h => h) (by assumption) (by rfl) ?_ ?_; rotate_left; (focus (intro w hSw; (obtain ⟨x0, x1, x2, x3, x4, x5, x6, x7, x8⟩ := hSw.cells); go_simp <;> with_reducible rfl)))
    | refine held_pass 5 186 rfl rfl (by kernel_rfl) (by kernel_rfl) (by kernel_rfl) (fun _ _ _ h => h) (by assumption) (by rfl) ?_
  simp only [Act.put, List.setIfInBounds_toArray, List.set_cons_zero, List.set_cons_succ]
  first
    | (refine held_take 6 187 (v := ?_) rfl rfl (by kernel_rfl) (by kernel_rfl) (by kernel_rfl) (fun _ _ _ h => h) (by assumption) (by rfl) ?_ ?_; rotate_left; (focus (intro w hSw; (obtain ⟨x0, x1, x2, x3, x4, x5, x6, x7, x8⟩ := hSw.cells); go_simp <;> with_reducible rfl)))
    | refine held_pass 6 187 rfl rfl (by kernel_rfl) (by kernel_rfl) (by kernel_rfl) (fun _ _ _ h => h) (by assumption) (by rfl) ?_
  simp only [Act.put, List.setIfInBounds_toArray, List.set_cons_zero, List.set_cons_succ]
  first
    | (refine held_take 7 188 (v := ?_) rfl rfl (by kernel_rfl) (by kernel_rfl) (by kernel_rfl) (fun _ _ _ h => h) (by assumption) (by rfl) ?_ ?_; rotate_left; (focus (intro w hSw; (obtain ⟨x0, x1, x2, x3, x4, x5, x6, x7, x8⟩ := hSw.cells); go_simp <;> with_reducible rfl)))
    | refine held_pass 7 188 rfl rfl (by kernel_rfl) (by kernel_rfl) (by kernel_rfl) (fun _ _ _ h => h) (by assumption) (by rfl) ?_
  simp only [Act.put, List.setIfInBounds_toArray, List.set_cons_zero, List.set_cons_succ]
  first
    | (refine held_take 8 189 (v := ?_) rfl rfl (by kernel_rfl) (by kernel_rfl) (by kernel_rfl) (fun _ _ _ h => h) (by assumption) (by rfl) ?_ ?_; rotate_left; (focus (intro w hSw; (obtain ⟨x0, x1, x2, x3, x4, x5, x6, x7, x8⟩ := hSw.cells); go_simp <;> with_reducible rfl)))
    | refine held_pass 8 189 rfl rfl (by kernel_rfl) (by kernel_rfl) (by kernel_rfl) (fun _ _ _ h => h) (by assumption) (by rfl) ?_
  simp only [Act.put, List.setIfInBounds_toArray, List.set_cons_zero, List.set_cons_succ]
  first
    | (refine held_take 9 190 (v := ?_) rfl rfl (by kernel_rfl) (by kernel_rfl) (by kernel_rfl) (fun _ _ _ h => h) (by assumption) (by rfl) ?_ ?_; rotate_left; (focus (intro w hSw; (obtain ⟨x0, x1, x2, x3, x4, x5, x6, x7, x8⟩ := hSw.cells); go_simp <;> with_reducible rfl)))
    | refine held_pass 9 190 rfl rfl (by kernel_rfl) (by kernel_rfl) (by kernel_rfl) (fun _ _ _ h => h) (by assumption) (by rfl) ?_
  simp only [Act.put, List.setIfInBounds_toArray, List.set_cons_zero, List.set_cons_succ]
  first
    | (refine held_take 10 191 (v := ?_) rfl rfl (by kernel_rfl) (by kernel_rfl) (by kernel_rfl) (fun _ _ _ h => h) (by assumption) (by rfl) ?_ ?_; rotate_left; (focus (intro w hSw; (obtain ⟨x0, x1, x2, x3, x4, x5, x6, x7, x8⟩ := hSw.cells); go_simp <;> with_reducible rfl)))
    | refine held_pass 10 191 rfl rfl (by kernel_rfl) (by kernel_rfl) (by kernel_rfl) (fun _ _ _ h => h) (by assumption) (by rfl) ?_
  simp only [Act.put, List.setIfInBounds_toArray, List.set_cons_zero, List.set_cons_succ]
  first
    | (refine held_take 11 192 (v := ?_) rfl rfl (by kernel_rfl) (by kernel_rfl) (by kernel_rfl) (fun _ _ _ h => h) (by assumption) (by rfl) ?_ ?_; rotate_left; (focus (intro w hSw; (obtain ⟨x0, x1, x2, x3, x4, x5, x6, x7, x8⟩ := hSw.cells); go_simp <;> with_reducible rfl)))
    | refine held_pass 11 192 rfl rfl (by kernel_rfl) (by kernel_rfl) (by kernel_rfl) (fun _ _ _ h => h) (by assumption) (by rfl) ?_
  simp only [Act.put, List.setIfInBounds_toArray, List.set_cons_zero, List.set_cons_succ]
  first
    | (refine held_take 12 193 (v := ?_) rfl rfl (by kernel_rfl) (by kernel_rfl) (by kernel_rfl) (fun _ _ _ h => h) (by assumption) (by rfl) ?_ ?_; rotate_left; (focus (intro w hSw; (obtain ⟨x0, x1, x2, x3, x4, x5, x6, x7, x8⟩ := hSw.cells); go_simp <;> with_reducible rfl)))
    | refine held_pass 12 193 rfl rfl (by kernel_rfl) (by kernel_rfl) (by kernel_rfl) (fun _ _ _ h => h) (by assumption) (by rfl) ?_
  simp only [Act.put, List.setIfInBounds_toArray, List.set_cons_zero, List.set_cons_succ]
  first
    | (refine held_take 14 195 (v := ?_) rfl rfl (by kernel_rfl) (by kernel_rfl) (by kernel_rfl) (fun _ _ _ h => h) (by assumption) (by rfl) ?_ ?_; rotate_left; (focus (intro w hSw; (obtain ⟨x0, x1, x2, x3, x4, x5, x6, x7, x8⟩ := hSw.cells); go_simp <;> with_reducible rfl)))
    | refine held_pass 14 195 rfl rfl (by kernel_rfl) (by kernel_rfl) (by kernel_rfl) (fun _ _ _ h => h) (by assumption) (by rfl) ?_
  simp only [Act.put, List.setIfInBounds_toArray, List.set_cons_zero, List.set_cons_succ]
  first
    | (refine held_take 15 196 (v := ?_) rfl rfl (by kernel_rfl) (by kernel_rfl) (by kernel_rfl) (fun _ _ _ h => h) (by assumption) (by rfl) ?_ ?_; rotate_left; (focus (intro w hSw; (obtain ⟨x0, x1, x2, x3, x4, x5, x6, x7, x8⟩ := hSw.cells); go_simp <;> with_reducible rfl)))
    | refine held_pass 15 196 rfl rfl (by kernel_rfl) (by kernel_rfl) (by kernel_rfl) (fun _ _ _ h => h) (by assumption) (by rfl) ?_
  simp only [Act.put, List.setIfInBounds_toArray, List.set_cons_zero, List.set_cons_succ]
  first
    | (refine held_take 16 197 (v := ?_) rfl rfl (by kernel_rfl) (by kernel_rfl) (by kernel_rfl) (fun _ _ _ h => h) (by assumption) (by rfl) ?_ ?_; rotate_left; (focus (intro w hSw; (obtain ⟨x0, x1, x2, x3, x4, x5, x6, x7, x8⟩ := hSw.cells); go_simp <;> with_reducible rfl)))
    | refine held_pass 16 197 rfl rfl (by kernel_rfl) (by kernel_rfl) (by kernel_rfl) (fun _ _ _ h => h) (by assumption) (by rfl) ?_
  simp only [Act.put, List.setIfInBounds_toArray, List.set_cons_zero, List.set_cons_succ]
  first
    | (refine held_take 17 198 (v := ?_) rfl rfl (by kernel_rfl) (by kernel_rfl) (by kernel_rfl) (fun _ _ _ h => h) (by assumption) (by rfl) ?_ ?_; rotate_left; (focus (intro w hSw; (obtain ⟨x0, x1, x2, x3, x4, x5, x6, x7, x8⟩ := hSw.cells); go_simp <;> with_reducible rfl)))
    | refine held_pass 17 198 rfl rfl (by kernel_rfl) (by kernel_rfl) (by kernel_rfl) (fun _ _ _ h => h) (by assumption) (by rfl) ?_
  simp only [Act.put, List.setIfInBounds_toArray, List.set_cons_zero, List.set_cons_succ]
  refine held_call 13 194 rfl rfl (by kernel_rfl) (by rfl) (fun K hK => ?_)
  simp only [Go.wp_at_succ, Go.wp_at_zero]
  go_simp
  go_at_call 46
  rw [← hw4]
  (with_reducible refine (HS.out _ H4.out).mono ?_)
  rintro e u5 ⟨rfl, H5⟩
  first | (with_reducible refine hK.out _ _ ?_ (fun hHeld => ?_)) | (go_wp2_with fail; refine hK.out _ _ ?_ (fun hHeld => ?_))
  · exact H5.out.op
  clear hK K
  try simp only [Act.put, List.setIfInBounds_toArray, List.set_cons_zero, List.set_cons_succ]
  refine held_call 18 199 rfl rfl (by kernel_rfl) (by rfl) (fun K hK => ?_)
  simp only [Go.wp_at_succ, Go.wp_at_zero]
  go_simp
  go_at_call 51
  (with_reducible refine (HS2.out _ H5.out).mono ?_)
  rintro e u6 ⟨rfl, H6⟩
  first | (with_reducible refine hK.out _ _ ?_ (fun hHeld => ?_)) | (go_wp2_with fail; refine hK.out _ _ ?_ (fun hHeld => ?_))
  · exact H6.out.op
  clear hK K
  try simp only [Act.put, List.setIfInBounds_toArray, List.set_cons_zero, List.set_cons_succ]
  first
    | (refine held_take 19 200 (v := ?_) rfl rfl (by kernel_rfl) (by kernel_rfl) (by kernel_rfl) (fun _ _ _ h => h) (by assumption) (by rfl) ?_ ?_; rotate_left; (focus (intro w hSw; (obtain ⟨x0, x1, x2, x3, x4, x5, x6, x7, x8⟩ := hSw.cells); go_simp <;> with_reducible rfl)))
    | refine held_pass 19 200 rfl rfl (by kernel_rfl) (by kernel_rfl) (by kernel_rfl) (fun _ _ _ h => h) (by assumption) (by rfl) ?_
  simp only [Act.put, List.setIfInBounds_toArray, List.set_cons_zero, List.set_cons_succ]
  first
    | (refine held_take 20 201 (v := ?_) rfl rfl (by kernel_rfl) (by kernel_rfl) (by kernel_rfl) (fun _ _ _ h => h) (by assumption) (by rfl) ?_ ?_; rotate_left; (focus (intro w hSw; (obtain ⟨x0, x1, x2, x3, x4, x5, x6, x7, x8⟩ := hSw.cells); go_simp <;> with_reducible rfl)))
    | refine held_pass 20 201 rfl rfl (by kernel_rfl) (by kernel_rfl) (by kernel_rfl) (fun _ _ _ h => h) (by assumption) (by rfl) ?_
  simp only [Act.put, List.setIfInBounds_toArray, List.set_cons_zero, List.set_cons_succ]
  first
    | (refine held_take 21 202 (v := ?_) rfl rfl (by kernel_rfl) (by kernel_rfl) (by kernel_rfl) (fun _ _ _ h => h) (by assumption) (by rfl) ?_ ?_; rotate_left; (focus (intro w hSw; (obtain ⟨x0, x1, x2, x3, x4, x5, x6, x7, x8⟩ := hSw.cells); go_simp <;> with_reducible rfl)))
    | refine held_pass 21 202 rfl rfl (by kernel_rfl) (by kernel_rfl) (by kernel_rfl) (fun _ _ _ h => h) (by assumption) (by rfl) ?_
  simp only [Act.put, List.setIfInBounds_toArray, List.set_cons_zero, List.set_cons_succ]
  first
    | (refine held_take 22 203 (v := ?_) rfl rfl (by kernel_rfl) (by kernel_rfl) (by kernel_rfl) (fun _ _ _ h => h) (by assumption) (by rfl) ?_ ?_; rotate_left; (focus (intro w hSw; (obtain ⟨x0, x1, x2, x3, x4, x5, x6, x7, x8⟩ := hSw.cells); go_simp <;> with_reducible rfl)))
    | refine held_pass 22 203 rfl rfl (by kernel_rfl) (by kernel_rfl) (by kernel_rfl) (fun _ _ _ h => h) (by assumption) (by rfl) ?_
  simp only [Act.put, List.setIfInBounds_toArray, List.set_cons_zero, List.set_cons_succ]
  first
    | (refine held_take 23 204 (v := ?_) rfl rfl (by kernel_rfl) (by kernel_rfl) (by kernel_rfl) (fun _ _ _ h => h) (by assumption) (by rfl) ?_ ?_; rotate_left; (focus (intro w hSw; (obtain ⟨x0, x1, x2, x3, x4, x5, x6, x7, x8⟩ := hSw.cells); go_simp <;> with_reducible rfl)))
    | refine held_pass 23 204 rfl rfl (by kernel_rfl) (by kernel_rfl) (by kernel_rfl) (fun _ _ _ h => h) (by assumption) (by rfl) ?_
  simp only [Act.put, List.setIfInBounds_toArray, List.set_cons_zero, List.set_cons_succ]
  first
    | (refine held_take 24 205 (v := ?_) rfl rfl (by kernel_rfl) (by kernel_rfl) (by kernel_rfl) (fun _ _ _ h => h) (by assumption) (by rfl) ?_ ?_; rotate_left; (focus (intro w hSw; (obtain ⟨x0, x1, x2, x3, x4, x5, x6, x7, x8⟩ := hSw.cells); go_simp <;> with_reducible rfl)))
    | refine held_pass 24 205 rfl rfl (by kernel_rfl) (by kernel_rfl) (by kernel_rfl) (fun _ _ _ h => h) (by assumption) (by rfl) ?_
  simp only [Act.put, List.setIfInBounds_toArray, List.set_cons_zero, List.set_cons_succ]
  first
    | (refine held_take 25 206 (v := ?_) rfl rfl (by kernel_rfl) (by kernel_rfl) (by kernel_rfl) (fun _ _ _ h => h) (by assumption) (by rfl) ?_ ?_; rotate_left; (focus (intro w hSw; (obtain ⟨x0, x1, x2, x3, x4, x5, x6, x7, x8⟩ := hSw.cells); go_simp <;> with_reducible rfl)))
    | refine held_pass 25 206 rfl rfl (by kernel_rfl) (by kernel_rfl) (by kernel_rfl) (fun _ _ _ h => h) (by assumption) (by rfl) ?_
  simp only [Act.put, List.setIfInBounds_toArray, List.set_cons_zero, List.set_cons_succ]
  first
    | (refine held_take 27 208 (v := ?_) rfl rfl (by kernel_rfl) (by kernel_rfl) (by kernel_rfl) (fun _ _ _ h => h) (by assumption) (by rfl) ?_ ?_; rotate_left; (focus (intro w hSw; (obtain ⟨x0, x1, x2, x3, x4, x5, x6, x7, x8⟩ := hSw.cells); go_simp <;> with_reducible rfl)))
    | refine held_pass 27 208 rfl rfl (by kernel_rfl) (by kernel_rfl) (by kernel_rfl) (fun _ _ _ h => h) (by assumption) (by rfl) ?_
  simp only [Act.put, List.setIfInBounds_toArray, List.set_cons_zero, List.set_cons_succ]
  first
    | (refine held_take 28 209 (v := ?_) rfl rfl (by kernel_rfl) (by kernel_rfl) (by kernel_rfl) (fun _ _ _ h => h) (by assumption) (by rfl) ?_ ?_; rotate_left; (focus (intro w hSw; (obtain ⟨x0, x1, x2, x3, x4, x5, x6, x7, x8⟩ := hSw.cells); go_simp <;> with_reducible rfl)))
    | refine held_pass 28 209 rfl rfl (by kernel_rfl) (by kernel_rfl) (by kernel_rfl) (fun _ _ _ h => h) (by assumption) (by rfl) ?_
  simp only [Act.put, List.setIfInBounds_toArray, List.set_cons_zero, List.set_cons_succ]
  first
    | (refine held_take 29 210 (v := ?_) rfl rfl (by kernel_rfl) (by kernel_rfl) (by kernel_rfl) (fun _ _ _ h => h) (by assumption) (by rfl) ?_ ?_; rotate_left; (focus (intro w hSw; (obtain ⟨x0, x1, x2, x3, x4, x5, x6, x7, x8⟩ := hSw.cells); go_simp <;> with_reducible rfl)))
    | refine held_pass 29 210 rfl rfl (by kernel_rfl) (by kernel_rfl) (by kernel_rfl) (fun _ _ _ h => h) (by assumption) (by rfl) ?_
  simp only [Act.put, List.setIfInBounds_toArray, List.set_cons_zero, List.set_cons_succ]
  first
    | (refine held_take 30 211 (v := ?_) rfl rfl (by kernel_rfl) (by kernel_rfl) (by kernel_rfl) (fun _ _ _ h => h) (by assumption) (by rfl) ?_ ?_; rotate_left; (focus (intro w hSw; (obtain ⟨x0, x1, x2, x3, x4, x5, x6, x7, x8⟩ := hSw.cells); go_simp <;> with_reducible rfl)))
    | refine held_pass 30 211 rfl rfl (by kernel_rfl) (by kernel_rfl) (by kernel_rfl) (fun _ _ _ h => h) (by assumption) (by rfl) ?_
  simp only [Act.put, List.setIfInBounds_toArray, List.set_cons_zero, List.set_cons_succ]
  refine held_call 26 207 rfl rfl (by kernel_rfl) (by rfl) (fun K hK => ?_)
  simp only [Go.wp_at_succ, Go.wp_at_zero]
  go_simp
  go_at_call 28
  (with_reducible refine (HL.out _ H6.out).mono ?_)
  rintro e u7 ⟨rfl, rfl⟩
  first | (with_reducible refine hK.out _ _ ?_ (fun hHeld => ?_)) | (go_wp2_with fail; refine hK.out _ _ ?_ (fun hHeld => ?_))
  · exact H6.out.op
  clear hK K
  try simp only [Act.put, List.setIfInBounds_toArray, List.set_cons_zero, List.set_cons_succ]
  refine held_call 31 212 rfl rfl (by kernel_rfl) (by rfl) (fun K hK => ?_)
  simp only [Go.wp_at_succ, Go.wp_at_zero]
  go_simp
  go_at_call 52
  (with_reducible refine (HL2.out _ H6.out).mono ?_)
  rintro e u8 ⟨rfl, H8⟩
  first | (with_reducible refine hK.out _ _ ?_ (fun hHeld => ?_)) | (go_wp2_with fail; refine hK.out _ _ ?_ (fun hHeld => ?_))
  · exact H8.out.op
  clear hK K
  try simp only [Act.put, List.setIfInBounds_toArray, List.set_cons_zero, List.set_cons_succ]
  first
    | (refine held_take 32 213 (v := ?_) rfl rfl (by kernel_rfl) (by kernel_rfl) (by kernel_rfl) (fun _ _ _ h => h) (by assumption) (by rfl) ?_ ?_; rotate_left; (focus (intro w hSw; (obtain ⟨x0, x1, x2, x3, x4, x5, x6, x7, x8⟩ := hSw.cells); go_simp <;> with_reducible rfl)))
    | refine held_pass 32 213 rfl rfl (by kernel_rfl) (by kernel_rfl) (by kernel_rfl) (fun _ _ _ h => h) (by assumption) (by rfl) ?_
  simp only [Act.put, List.setIfInBounds_toArray, List.set_cons_zero, List.set_cons_succ]
  first
    | (refine held_take 33 214 (v := ?_) rfl rfl (by kernel_rfl) (by kernel_rfl) (by kernel_rfl) (fun _ _ _ h => h) (by assumption) (by rfl) ?_ ?_; rotate_left; (focus (intro w hSw; (obtain ⟨x0, x1, x2, x3, x4, x5, x6, x7, x8⟩ := hSw.cells); go_simp <;> with_reducible rfl)))
    | refine held_pass 33 214 rfl rfl (by kernel_rfl) (by kernel_rfl) (by kernel_rfl) (fun _ _ _ h => h) (by assumption) (by rfl) ?_
  simp only [Act.put, List.setIfInBounds_toArray, List.set_cons_zero, List.set_cons_succ]
  first
    | (refine held_take 34 6 (v := ?_) rfl rfl (by kernel_rfl) (by kernel_rfl) (by kernel_rfl) (fun _ _ _ h => h) (by assumption) (by rfl) ?_ ?_; rotate_left; (focus (intro w hSw; (obtain ⟨x0, x1, x2, x3, x4, x5, x6, x7, x8⟩ := hSw.cells); go_simp <;> with_reducible rfl)))
    | refine held_pass 34 6 rfl rfl (by kernel_rfl) (by kernel_rfl) (by kernel_rfl) (fun _ _ _ h => h) (by assumption) (by rfl) ?_
  simp only [Act.put, List.setIfInBounds_toArray, List.set_cons_zero, List.set_cons_succ]
  refine wpAnyH_done (by kernel_rfl) ?_ _
  have HE := Lib.hid H8.out.p
  clear H8 H6 H5 H4 H3
  go_wp2
  go_returns
  exact ⟨by simp, L, c, S, vq, by omega, HE⟩
set_option maxRecDepth 100000 in
set_option maxHeartbeats 4000000 in
theorem ldo_5 (H : LPB n w g b q L c L c S vq u) (hL : L.length ≤ 1000) (N MM cl sq kk id mt : Int) (dt : ByteArray) :
    Calls Try.prog 14 #[.pointer (some ⟨g, 0, none⟩), .pointer (some ⟨b, 0, none⟩), .agg #[.int .i64 5, .int .i64 N, .int .i64 MM, .int .i64 cl, .int .i64 sq, .int .i64 kk, .int .i64 id, .int .i64 mt, .string dt]] u (StepR n w g b q (L.length + 1)) := by
  obtain ⟨hok, hcl, hq1, hq2⟩ := H.lo.ok
  have hL1 : L.length ≤ 100000 := by omega
  have hnu := H.lo.size
  obtain ⟨B, hB⟩ : ∃ B, B = u.heap.size := ⟨_, rfl⟩
  obtain ⟨u1, hu1⟩ : ∃ u1, u1 = u.alloc (.cells #[.int .i64 5, .int .i64 N, .int .i64 MM, .int .i64 cl, .int .i64 sq, .int .i64 kk, .int .i64 id, .int .i64 mt, .string dt] 36) := ⟨_, rfl⟩
  have H1 : Hid (LPO n w g b q L c L c S vq B 5 N MM cl sq kk id mt dt u1) := by rw [hu1, hB]; exact .new H
  obtain ⟨m, hm⟩ : ∃ m, m = L.length := ⟨_, rfl⟩
  obtain ⟨a, cap, hvq⟩ := H.rf.shape
  rw [← hm] at hvq
  have HR : Hid (∀ X : Int, ∃ cd vr d x, ∀ u, LPO n w g b q L c L c S vq B 5 N MM cl sq kk id mt dt u → (Calls Try.prog 22 #[.pointer (some ⟨g, 0, none⟩), .int .i64 X] u fun e w' => ∃ ao cap, e = .returned (.tuple #[.agg #[.int .i64 cd, .int .i64 vr, .string d, .slice ao 0 cap], .int .i64 x]) ∧ Hid (Nil0 (.slice ao 0 cap)) ∧ Below u.heap.size u w') ∧ (Calls Try.prog 53 #[.pointer (some ⟨b, 0, none⟩), .int .i64 X] u fun e w' => ∃ ao cap, e = .returned (.tuple #[.agg #[.int .i64 cd, .int .i64 vr, .string d, .slice ao 0 cap], .int .i64 x]) ∧ Hid (Nil0 (.slice ao 0 cap)) ∧ Below u.heap.size u w')) := fun X => by
    by_cases hX : 1 ≤ X ∧ X ≤ (c : Int)
    · obtain ⟨k, rfl⟩ : ∃ k : Nat, X = (k : Int) + 1 := ⟨(X - 1).toNat, by omega⟩
      obtain ⟨A, hA⟩ : ∃ A, putA (stoOf q (L.take k)) (atL L k) = A := ⟨_, rfl⟩
      refine ⟨A.code, A.ver, A.data, 0, fun u hu => ⟨?_, ?_⟩⟩
      · exact (hu.p.lo.replyYes hL1 k (by omega) A hA).mono fun e w' ⟨ao, cp, he, hn, hb⟩ => ⟨ao, cp, he, hn, hb⟩
      · exact (qlreply_yes hu.p.rf hL1 hok hq1 hq2 hcl k (by omega) A.code A.ver A.data A.s A.err hA).mono fun e w' ⟨ao, cp, he, hn, hb⟩ => ⟨ao, cp, he, hn, hb⟩
    · refine ⟨0, 0, ⟨#[]⟩, 6, fun u hu => ⟨?_, ?_⟩⟩
      · exact (hu.p.lo.replyNo X (by omega)).mono fun e w' ⟨he, hb⟩ => ⟨none, 0, he, Nil0.none, hb⟩
      · exact (qlreply_no hu.p.rf X (by omega)).mono fun e w' ⟨he, hb⟩ => ⟨none, 0, he, Nil0.none, hb⟩
  have hz : u1.cell? ⟨b, 1, none⟩ = some (.slice a m cap) := by have h := H1.out.p.rf.cells.2.1; rw [h, hvq]
  have hm1 : m ≤ 1000 := by omega
  have HMM := Lib.hid hm
  clear hok hcl hq1 hq2 hvq hm
  have HU := Lib.hid hu1
  have HB := Lib.hid hB
  clear H hu1 hB hnu
  obtain ⟨x0, x1, x2, x3, x4, x5, x6, x7, x8⟩ := H1.out.op.cells
  go_enter Try.func14, Try.ntmps14
  go_upto_region 1 with fail
  rw [← HU.out, ← HB.out]
  clear HU HB
  go_upto_if 222 with fail
  go_cut [19] (fun s19 wc => ∃ X : Int, s19 = .int .i64 X ∧ Hid (LPO n w g b q L c L c S vq B 5 N MM cl sq kk id mt dt wc))
  case first =>
    cases hbit : (bits .and .i64 MM 1 == 0) with
    | true =>
      go_upto_region 29 with fail
      have e2 : IntKind.i64.wrap ((m : Int) + 1) = (m : Int) + 1 := by rw [IntKind.wrap_i64]; omega
      have e3 : IntKind.u64.wrap ((m : Int) + 1) = (m : Int) + 1 := by rw [IntKind.wrap_u64]; omega
      have e4 : ((m : Int) + 1 == 0) = false := by rw [beq_eq_false_iff_ne]; omega
      go_quiet (fail)
      go_wp2
      go_meet
      exact ⟨_, rfl, H1.out.on ⟨rfl, rfl, rfl, Nat.le_refl _, fun _ _ => rfl⟩⟩
    | false =>
      go_wp2
      go_meet
      exact ⟨_, rfl, H1⟩
  case rest =>
  obtain ⟨X, rfl, H2⟩ := hcut
  obtain ⟨cd, vr, d, x, hR⟩ := HR.out X
  have HRX := Lib.hid hR
  clear HR hR H1 hz x0 x1 x2 x3 x4 x5 x6 x7 x8
  go_wp2_with fail
  refine (HRX.out _ H2.out).1.mono ?_
  rintro e w3 ⟨ao3, cp3, rfl, n3, b3⟩
  obtain ⟨p1, hp1⟩ : ∃ p, p = w3.heap.size := ⟨_, rfl⟩
  obtain ⟨w4, hw4⟩ : ∃ w4, w4 = w3.alloc (.cells #[.int .i64 cd, .int .i64 vr, .string d, .slice ao3 0 cp3] 48) := ⟨_, rfl⟩
  have H4 : Hid (LPO n w g b q L c L c S vq B 5 N MM cl sq kk id mt dt w4 ∧ RepB w4 p1 cd vr d (.slice ao3 0 cp3)) := by
    rw [hw4, hp1]; exact ⟨(H2.out.on b3).on ((Below.refl _ _).alloc (Nat.le_refl _) _), RepB.fresh _ _ _ _ _ _⟩
  have HW4 := Lib.hid hw4
  have HP1 := Lib.hid hp1
  clear hw4 hp1 b3 H2
  go_upto_region 31 with fail
  rw [← HW4.out, ← HP1.out]
  clear HW4 HP1
  go_wp2_with fail
  refine (HRX.out _ H4.out.1).2.mono ?_
  rintro e w5 ⟨ao5, cp5, rfl, n5, b5⟩
  obtain ⟨p2, hp2⟩ : ∃ p, p = w5.heap.size := ⟨_, rfl⟩
  obtain ⟨w6, hw6⟩ : ∃ w4, w4 = w5.alloc (.cells #[.int .i64 cd, .int .i64 vr, .string d, .slice ao5 0 cp5] 48) := ⟨_, rfl⟩
  have H6 : Hid (LPO n w g b q L c L c S vq B 5 N MM cl sq kk id mt dt w6 ∧ RepB w6 p1 cd vr d (.slice ao3 0 cp3) ∧ RepB w6 p2 cd vr d (.slice ao5 0 cp5)) := by
    have ha : Below w5.heap.size w5 w6 := by rw [hw6]; exact (Below.refl _ _).alloc (Nat.le_refl _) _
    have h1 := H4.out.2.keep b5 H4.out.2.lt
    exact ⟨(H4.out.1.on b5).on ha, h1.keep ha h1.lt, by rw [hw6, hp2]; exact RepB.fresh _ _ _ _ _ _⟩
  have HW6 := Lib.hid hw6
  have HP2 := Lib.hid hp2
  clear hw6 hp2 b5 H4
  go_upto_region 32 with fail
  rw [← HW6.out, ← HP2.out]
  clear HW6 HP2
  obtain ⟨y0, y1, y2, y3⟩ := H6.out.2.1.cells
  obtain ⟨z0, z1, z2, z3⟩ := H6.out.2.2.cells
  go_wp2_with fail
  refine (same_nil cd vr d _ _ n3.out n5.out w6).mono ?_
  rintro e w7 ⟨rfl, b7⟩
  have HE := Lib.hid (H6.out.1.on b7).p
  clear H6 b7 y0 y1 y2 y3 z0 z1 z2 z3
  go_wp2
  go_returns
  exact ⟨by simp, L, c, S, vq, by omega, HE⟩
set_option maxRecDepth 100000 in
set_option maxHeartbeats 4000000 in
theorem ldo_6 (H : LPB n w g b q L c L c S vq u) (hL : L.length ≤ 1000) (kd N MM cl sq kk id mt : Int) (dt : ByteArray) (d0 : (kd == 0) = false) (d1 : (kd == 1) = false) (d2 : (kd == 2) = false) (d3 : (kd == 3) = false) (d4 : (kd == 4) = false) (d5 : (kd == 5) = false) :
    Calls Try.prog 14 #[.pointer (some ⟨g, 0, none⟩), .pointer (some ⟨b, 0, none⟩), .agg #[.int .i64 kd, .int .i64 N, .int .i64 MM, .int .i64 cl, .int .i64 sq, .int .i64 kk, .int .i64 id, .int .i64 mt, .string dt]] u (StepR n w g b q (L.length + 1)) := by
  obtain ⟨hok, hcl, hq1, hq2⟩ := H.lo.ok
  have hL1 : L.length ≤ 100000 := by omega
  have hnu := H.lo.size
  obtain ⟨B, hB⟩ : ∃ B, B = u.heap.size := ⟨_, rfl⟩
  obtain ⟨u1, hu1⟩ : ∃ u1, u1 = u.alloc (.cells #[.int .i64 kd, .int .i64 N, .int .i64 MM, .int .i64 cl, .int .i64 sq, .int .i64 kk, .int .i64 id, .int .i64 mt, .string dt] 36) := ⟨_, rfl⟩
  have H1 : Hid (LPO n w g b q L c L c S vq B kd N MM cl sq kk id mt dt u1) := by rw [hu1, hB]; exact .new H
  obtain ⟨sv, hsv⟩ : ∃ s, s = stoOf q (L.take c) := ⟨_, rfl⟩
  have hfit : Fit sv c := by rw [hsv]; have h := stoOf_fit hq1 hq2 (L.take c); rwa [List.length_take, Nat.min_eq_left hcl] at h
  have HSt : Hid (∀ u, LPO n w g b q L c L c S vq B kd N MM cl sq kk id mt dt u → Calls Try.prog 24 #[.pointer (some ⟨g, 0, none⟩)] u fun e w' => e = .returned (.pointer (some ⟨u.heap.size, 0, none⟩)) ∧ Sto layP w' u.heap.size sv ∧ Below u.heap.size u w') := fun u hu => by rw [hsv]; exact hu.p.lo.store hL1
  have HFi : Hid (∀ u, LPO n w g b q L c L c S vq B kd N MM cl sq kk id mt dt u → Calls Try.prog 55 #[.pointer (some ⟨b, 0, none⟩), .int .i64 c] u fun e w' => e = .returned (.pointer (some ⟨u.heap.size, 0, none⟩)) ∧ Sto layR w' u.heap.size sv ∧ Below u.heap.size u w') := fun u hu => by rw [hsv]; exact qlfirst_r hu.p.rf hL1 hok hq1 hq2 c hcl
  have HSm : Hid (∀ p p2 u, Sto layP u p sv → Sto layR u p2 sv → Calls Try.prog 54 #[.pointer (some ⟨p, 0, none⟩), .pointer (some ⟨p2, 0, none⟩)] u fun e w' => e = .returned (.bool true) ∧ Below u.heap.size u w') := fun p p2 u h1 h2 => sames_r p p2 sv c u hfit (by omega) h1 h2
  clear hsv hfit hok hcl hq1 hq2
  have HU := Lib.hid hu1
  have HB := Lib.hid hB
  clear H hu1 hB hnu
  obtain ⟨x0, x1, x2, x3, x4, x5, x6, x7, x8⟩ := H1.out.op.cells
  go_enter Try.func14, Try.ntmps14
  go_upto_region 1 with fail
  rw [← HU.out, ← HB.out]
  clear HU HB
  go_wp2_with fail
  refine (HSt.out _ H1.out).mono ?_
  obtain ⟨p1, hp1⟩ : ∃ p, p = u1.heap.size := ⟨_, rfl⟩
  rw [← hp1]
  rintro e w2 ⟨rfl, s2, b2⟩
  have H2 := Lib.hid (H1.out.on (by rw [← hp1]; exact b2))
  have S2 := Lib.hid s2
  clear hp1 s2 b2 H1 x0 x1 x2 x3 x4 x5 x6 x7 x8
  obtain ⟨_, _, z2⟩ := H2.out.p.rf.cells
  go_wp2_with fail
  refine (HFi.out _ H2.out).mono ?_
  obtain ⟨p2, hp2⟩ : ∃ p, p = w2.heap.size := ⟨_, rfl⟩
  rw [← hp2]
  rintro e w3 ⟨rfl, s3, b3⟩
  have b3h : Below w2.heap.size w2 w3 := by rw [← hp2]; exact b3
  have H3 := Lib.hid (H2.out.on b3h)
  have S3 := Lib.hid s3
  have S2b := Lib.hid (S2.out.on b3h)
  clear hp2 s3 b3 b3h H2 S2 z2
  go_wp2_with fail
  refine (HSm.out _ _ _ S2b.out S3.out).mono ?_
  rintro e w4 ⟨rfl, b4⟩
  have HE := Lib.hid (H3.out.on b4).p
  clear H3 b4 S2b S3
  go_wp2
  go_returns
  exact ⟨by simp, L, c, S, vq, by omega, HE⟩
end
end Go.Proofs.Ytenjjgghoacboaa
