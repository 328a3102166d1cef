/-
  THE REFERENCE's LOG, beside the program's; the steps that came in. Merged by gen/cat.sh.
-/
import Derived.Test.YtenjjgghoacboaaLnO
import Derived.Deep.DeepCutAuto
import Derived.Test.YtenjjgghoacboaaStoreU
import Derived.Test.YtenjjgghoacboaaItemMayS
import Derived.Deep.RegionHeld3
import Derived.Test.YtenjjgghoacboaaChartArgs
/-! ## LnG -/
/-
  THE REFERENCE's LOG READ: Seq, Last, Find, Since. Of at most a hundred thousand requests.
-/
namespace Go.Proofs.Ytenjjgghoacboaa
open Go.RowKit

/-- The reference's log at b. -/
structure QLog (n : Nat) (b : Nat) (q : Int) (vq : Value) (L : List ReqV) (c : Nat) (u : World) : Prop where
  blk : u.heap[b]? = some (.cells #[.int .i64 q, vq, .int .i64 c] 31 (0, 0))
  row : u.ownsRow n 34 6 vq L.length (reqCs L)
section
variable {n b : Nat} {q : Int} {vq : Value} {L : List ReqV} {c : Nat} {u u' : World}
theorem QLog.on (h : QLog n b q vq L c u) (hb : Below u.heap.size u u') : QLog n b q vq L c u' :=
  ⟨(hb.block b (lt_of_block h.blk)).trans h.blk, ownsRow_on h.row fun x hx => hb.block x (h.row.lt x hx).2⟩
theorem QLog.only {T : Nat → Prop} (h : QLog n b q vq L c u) (ho : Only T u u') (h1 : ¬ T b) (h2 : ∀ x, vq.ownBlock = some x → ¬ T x) : QLog n b q vq L c u' :=
  ⟨(ho.block b (lt_of_block h.blk) h1).trans h.blk, ownsRow_on h.row fun x hx => ho.block x (h.row.lt x hx).2 (h2 x hx)⟩
theorem QLog.shape (h : QLog n b q vq L c u) : ∃ a cap, vq = .slice a L.length cap := own_shape h.row
theorem QLog.cells (h : QLog n b q vq L c u) : u.cell? ⟨b, 0, none⟩ = some (.int .i64 q) ∧ u.cell? ⟨b, 1, none⟩ = some vq ∧ u.cell? ⟨b, 2, none⟩ = some (.int .i64 c) := by
  refine ⟨?_, ?_, ?_⟩ <;> rw [cell_of_row _ _ _ _ _ _ h.blk] <;> rfl
theorem QLog.cut (h : QLog n b q vq L c u) : b < u.heap.size := lt_of_block h.blk
theorem QLog.all (h : QLog n b q vq L c u) : AllAt vq L u := .of h.row
end

/-! ### Seq -/
/-- The last number of a client, of any. -/
def seqR (L : List ReqV) (x : Int) : Int := L.foldl (fun s r => if r.client = x then r.seq else s) 0
theorem seqR_app (L : List ReqV) (r : ReqV) (x : Int) : seqR (L ++ [r]) x = if r.client = x then r.seq else seqR L x := by simp [seqR]
theorem seqR_seqV {L : List ReqV} (h : okL L) (x : Int) : seqR L x = seqV L x := by
  unfold seqV
  have key : ∀ m, m ≤ L.length → seqR (L.take m) x = if 0 ≤ x ∧ x < 4 then seqL (L.take m) x.toNat else 0 := by
    intro m
    induction m with
    | zero => intro _; simp [seqR, seqL, clN, whichN]
    | succ m ih =>
      intro hm
      have hlt : m < L.length := by omega
      have hp := (h m hlt).1.1
      unfold ReqV.may at hp
      rw [take_next hlt, seqR_app, seqL_app, ih (by omega)]
      by_cases hx : 0 ≤ x ∧ x < 4
      · rw [if_pos hx, if_pos hx]
        by_cases e : (atL L m).client = x
        · rw [if_pos e, if_pos (by omega)]
        · rw [if_neg e, if_neg (by omega)]
      · rw [if_neg hx, if_neg hx, if_neg (by omega)]
  have := key L.length (Nat.le_refl _)
  rwa [List.take_length] at this
set_option maxRecDepth 100000 in
set_option maxHeartbeats 2000000 in
theorem qlseq_r {n b : Nat} {q : Int} {vq : Value} {L : List ReqV} {c : Nat} {w : World} (H : QLog n b q vq L c w) (hL : L.length ≤ 100000) (x M : Int) (hM : seqR L x = M) :
    Calls Try.prog 51 #[.pointer (some ⟨b, 0, none⟩), .int .i64 x] w fun e w' => e = .returned (.int .i64 M) ∧ Below w.heap.size w w' := by
  obtain ⟨a, cap, rfl⟩ := H.shape
  obtain ⟨N, hN⟩ : ∃ N, N = L.length := ⟨_, rfl⟩
  have HH := Lib.hid H
  rw [← hN] at HH hL
  have HN := Lib.hid hN
  have HMM := Lib.hid hM
  have HW : Hid (Below w.heap.size w w) := Below.refl _ _
  obtain ⟨_, z1, _⟩ := HH.out.cells
  clear H hN hM
  go_enter Try.func51, Try.ntmps51
  go_wp2
  clear z1
  go_loopw [5, 6] (fun s5 s6 wr => ∃ k : Nat, k ≤ N ∧ s6 = .int .i64 k ∧ s5 = .int .i64 (seqR (L.take k) x) ∧ Hid (Below w.heap.size w wr)) (fun _ s6 _ => N - (intOf s6).toNat)
  case atStart => exact ⟨0, Nat.zero_le _, rfl, rfl, HW⟩
  case round =>
    clear HW
    obtain ⟨k, hk, rfl, rfl, HW⟩ := hrel
    obtain ⟨_, z1, _⟩ := (HH.out.on HW.out).cells
    by_cases hlt : k < N
    · have hkL : k < L.length := by rw [← HN.out]; exact hlt
      obtain ⟨rb, rc, hv, _, _, hc⟩ := (HH.out.on HW.out).all k hkL
      rw [← HN.out] at hv
      simp only [Value.slice.injEq] at hv
      obtain ⟨rfl, -, rfl⟩ := hv
      have k0 : (0 : Int) ≤ (k : Int) := by omega
      have k1 : (k : Int) < (N : Int) := by omega
      obtain ⟨x0, x1, x2, x3, x4, x5⟩ := hc
      have hnx := seqR_app (L.take k) (atL L k) x
      rw [← take_next hkL] at hnx
      have HNX := Lib.hid hnx
      generalize atL L k = r at x0 x1 x2 x3 x4 x5 HNX
      obtain ⟨cl, sq, kd, id, mt, dt⟩ := r
      simp only at x0 x1 x2 x3 x4 x5
      clear hkL hnx x2 x3 x4 x5
      by_cases he : cl = x
      · have hb : (cl == x) = true := by rw [beq_iff_eq]; exact he
        have HS : Hid (seqR (L.take (k + 1)) x = sq) := by
          have h := HNX.out
          rwa [if_pos he] at h
        clear he HNX
        go_wp2
        go_roundw
        case rel => exact ⟨k + 1, by omega, by go_num, by rw [HS.out], HW.out⟩
        case measure => simp [intOf]; omega
      · have hb : (cl == x) = false := by rw [beq_eq_false_iff_ne]; exact he
        have HS : Hid (seqR (L.take (k + 1)) x = seqR (L.take k) x) := by
          have h := HNX.out
          rwa [if_neg he] at h
        clear he HNX
        go_wp2
        go_roundw
        case rel => exact ⟨k + 1, by omega, by go_num, by rw [HS.out], HW.out⟩
        case measure => simp [intOf]; omega
    · obtain rfl : k = N := by omega
      have e1 : seqR (L.take k) x = M := by rw [HN.out, List.take_length]; exact HMM.out
      rw [e1]
      clear e1
      go_wp2
      go_returns
      exact ⟨rfl, HW.out⟩

/-! ### Last -/
/-- The last place of an id, of any. -/
def lastR (L : List ReqV) (x : Int) : Nat → Int
  | 0 => 0
  | k + 1 => if (atL L k).id = x then (k : Int) + 1 else lastR L x k
theorem lastR_V {L : List ReqV} (h : okL L) (x : Int) : lastR L x L.length = lastV18 L x := by
  unfold lastV18
  have key : ∀ m, m ≤ L.length → lastR L x m = if 0 ≤ x ∧ x < 32 then lastL (L.take m) x.toNat else 0 := by
    intro m
    induction m with
    | zero => intro _; simp [lastR, lastL, idN, whichN]
    | succ m ih =>
      intro hm
      have hlt : m < L.length := by omega
      have hp := (h m hlt).1.1
      unfold ReqV.may at hp
      rw [take_next hlt, lastL_app, List.length_take, Nat.min_eq_left (by omega)]
      show (if (atL L m).id = x then (m : Int) + 1 else lastR L x m) = _
      rw [ih (by omega)]
      by_cases hx : 0 ≤ x ∧ x < 32
      · rw [if_pos hx, if_pos hx]
        by_cases e : (atL L m).id = x
        · rw [if_pos e, if_pos (by omega)]
        · rw [if_neg e, if_neg (by omega)]
      · rw [if_neg hx, if_neg hx, if_neg (by omega)]
  have := key L.length (Nat.le_refl _)
  rwa [List.take_length] at this
set_option maxRecDepth 100000 in
set_option maxHeartbeats 2000000 in
theorem qllast_r {n b : Nat} {q : Int} {vq : Value} {L : List ReqV} {c : Nat} {w : World} (H : QLog n b q vq L c w) (hL : L.length ≤ 100000) (x M : Int) (hM : lastR L x L.length = M) :
    Calls Try.prog 52 #[.pointer (some ⟨b, 0, none⟩), .int .i64 x] w fun e w' => e = .returned (.int .i64 M) ∧ Below w.heap.size w w' := by
  obtain ⟨a, cap, rfl⟩ := H.shape
  obtain ⟨N, hN⟩ : ∃ N, N = L.length := ⟨_, rfl⟩
  have HH := Lib.hid H
  rw [← hN] at HH hL hM
  have HN := Lib.hid hN
  have HMM := Lib.hid hM
  have HW : Hid (Below w.heap.size w w) := Below.refl _ _
  obtain ⟨_, z1, _⟩ := HH.out.cells
  clear H hN hM
  go_enter Try.func52, Try.ntmps52
  go_wp2
  clear z1
  go_loopw [5, 6] (fun s5 s6 wr => ∃ k : Nat, k ≤ N ∧ s6 = .int .i64 k ∧ s5 = .int .i64 (lastR L x k) ∧ Hid (Below w.heap.size w wr)) (fun _ s6 _ => N - (intOf s6).toNat)
  case atStart => exact ⟨0, Nat.zero_le _, rfl, rfl, HW⟩
  case round =>
    clear HW
    obtain ⟨k, hk, rfl, rfl, HW⟩ := hrel
    obtain ⟨_, z1, _⟩ := (HH.out.on HW.out).cells
    by_cases hlt : k < N
    · have hkL : k < L.length := by rw [← HN.out]; exact hlt
      obtain ⟨rb, rc, hv, _, _, hc⟩ := (HH.out.on HW.out).all k hkL
      rw [← HN.out] at hv
      simp only [Value.slice.injEq] at hv
      obtain ⟨rfl, -, rfl⟩ := hv
      have k0 : (0 : Int) ≤ (k : Int) := by omega
      have k1 : (k : Int) < (N : Int) := by omega
      obtain ⟨x0, x1, x2, x3, x4, x5⟩ := hc
      have hnx : lastR L x (k + 1) = if (atL L k).id = x then (k : Int) + 1 else lastR L x k := rfl
      have HNX := Lib.hid hnx
      generalize atL L k = r at x0 x1 x2 x3 x4 x5 HNX
      obtain ⟨cl, sq, kd, id, mt, dt⟩ := r
      simp only at x0 x1 x2 x3 x4 x5
      clear hkL hnx x0 x1 x2 x4 x5
      by_cases he : id = x
      · have hb : (id == x) = true := by rw [beq_iff_eq]; exact he
        have HS : Hid (lastR L x (k + 1) = (k : Int) + 1) := by
          have h := HNX.out
          rwa [if_pos he] at h
        clear he HNX
        go_wp2
        go_roundw
        case rel => exact ⟨k + 1, by omega, by go_num, by rw [HS.out], HW.out⟩
        case measure => simp [intOf]; omega
      · have hb : (id == x) = false := by rw [beq_eq_false_iff_ne]; exact he
        have HS : Hid (lastR L x (k + 1) = lastR L x k) := by
          have h := HNX.out
          rwa [if_neg he] at h
        clear he HNX
        go_wp2
        go_roundw
        case rel => exact ⟨k + 1, by omega, by go_num, by rw [HS.out], HW.out⟩
        case measure => simp [intOf]; omega
    · obtain rfl : k = N := by omega
      have e1 := HMM.out
      rw [e1]
      clear e1
      go_wp2
      go_returns
      exact ⟨rfl, HW.out⟩

/-! ### Find -/
set_option maxRecDepth 100000 in
set_option maxHeartbeats 2000000 in
theorem qlfind_r {n b : Nat} {q : Int} {vq : Value} {L : List ReqV} {c : Nat} {w : World} (H : QLog n b q vq L c w) (hL : L.length ≤ 100000) (x y : Int) :
    Calls Try.prog 50 #[.pointer (some ⟨b, 0, none⟩), .int .i64 x, .int .i64 y] w (FindR L x y w) := by
  obtain ⟨a, cap, rfl⟩ := H.shape
  obtain ⟨N, hN⟩ : ∃ N, N = L.length := ⟨_, rfl⟩
  have HH := Lib.hid H
  rw [← hN] at HH hL
  have HN := Lib.hid hN
  have HW : Hid (Below w.heap.size w w) := Below.refl _ _
  obtain ⟨_, z1, _⟩ := HH.out.cells
  clear H hN
  go_enter Try.func50, Try.ntmps50
  go_wp2
  clear z1
  go_loopw [8] (fun s8 wr => ∃ k : Nat, k ≤ N ∧ s8 = .int .i64 k ∧ Hid (∀ j, j < k → ¬ Stands L x y j) ∧ Hid (Below w.heap.size w wr)) (fun s8 _ => N - (intOf s8).toNat)
  case atStart => exact ⟨0, Nat.zero_le _, rfl, (fun j hj => by omega), HW⟩
  case round =>
    clear HW
    obtain ⟨k, hk, rfl, HNS, HW⟩ := hrel
    obtain ⟨_, z1, _⟩ := (HH.out.on HW.out).cells
    by_cases hlt : k < N
    · have hkL : k < L.length := by rw [← HN.out]; exact hlt
      obtain ⟨rb, rc, hv, _, _, hc⟩ := (HH.out.on HW.out).all k hkL
      rw [← HN.out] at hv
      simp only [Value.slice.injEq] at hv
      obtain ⟨rfl, -, rfl⟩ := hv
      have k0 : (0 : Int) ≤ (k : Int) := by omega
      have k1 : (k : Int) < (N : Int) := by omega
      obtain ⟨x0, x1, x2, x3, x4, x5⟩ := hc
      have hst : Stands L x y k ↔ (atL L k).client = x ∧ (atL L k).seq = y := ⟨fun h => h.2, fun h => ⟨hkL, h⟩⟩
      have HST := Lib.hid hst
      generalize hr : atL L k = r at x0 x1 x2 x3 x4 x5 HST
      obtain ⟨cl, sq, kd, id, mt, dt⟩ := r
      simp only at x0 x1 x2 x3 x4 x5 HST
      clear hkL hst x2 x3 x4 x5 hr
      by_cases he : cl = x
      · have hb : (cl == x) = true := by rw [beq_iff_eq]; exact he
        by_cases hf : sq = y
        · have hb2 : (sq == y) = true := by rw [beq_iff_eq]; exact hf
          have HY := Lib.hid (HST.out.2 ⟨he, hf⟩)
          clear he hf HST HNS
          go_wp2
          go_returns
          exact FindR.of _ _ rfl (.inl ⟨rfl, k, rfl, HY.out⟩) HW.out
        · have hb2 : (sq == y) = false := by rw [beq_eq_false_iff_ne]; exact hf
          have HY : Hid (∀ j, j < k + 1 → ¬ Stands L x y j) := fun j hj hs => by
            by_cases e : j = k
            · subst e; exact hf (HST.out.1 hs).2
            · exact HNS.out j (by omega) hs
          clear he hf HST HNS
          go_wp2
          go_roundw
          case rel => exact ⟨k + 1, by omega, by go_num, HY.out, HW.out⟩
          case measure => simp [intOf]; omega
      · have hb : (cl == x) = false := by rw [beq_eq_false_iff_ne]; exact he
        have HY : Hid (∀ j, j < k + 1 → ¬ Stands L x y j) := fun j hj hs => by
          by_cases e : j = k
          · subst e; exact he (HST.out.1 hs).1
          · exact HNS.out j (by omega) hs
        clear he HST HNS
        go_wp2
        go_roundw
        case rel => exact ⟨k + 1, by omega, by go_num, HY.out, HW.out⟩
        case measure => simp [intOf]; omega
    · obtain rfl : k = N := by omega
      have HY : Hid (∀ j, ¬ Stands L x y j) := fun j hs => HNS.out j (by rw [HN.out]; exact hs.1) hs
      clear HNS
      go_wp2
      go_returns
      exact FindR.of _ _ rfl (.inr ⟨rfl, rfl, HY.out⟩) HW.out
end Go.Proofs.Ytenjjgghoacboaa

/-! ## LnH -/
/-
  THE REFERENCE's LOG: Since, First, Reply. Of at most a hundred thousand requests.
-/
namespace Go.Proofs.Ytenjjgghoacboaa
open Go.RowKit

section
variable {n b : Nat} {q : Int} {vq : Value} {L : List ReqV} {c : Nat} {w : World}
/-! ### Since -/
set_option maxRecDepth 100000 in
set_option maxHeartbeats 2000000 in
theorem qlsince_r (H : QLog n b q vq L c w) (hL : L.length ≤ 100000) (k : Nat) (most : Int) :
    Calls Try.prog 49 #[.pointer (some ⟨b, 0, none⟩), .int .i64 k, .int .i64 most] w (SinceR (comeQ L k (cntQ L k most)) w) := by
  obtain ⟨i0, hi, hz0, hz1, hz2⟩ := info_parts info_Req18
  obtain ⟨a, cap, rfl⟩ := H.shape
  obtain ⟨N, hN⟩ : ∃ N, N = L.length := ⟨_, rfl⟩
  obtain ⟨C, hC⟩ : ∃ C, C = cntQ L k most := ⟨_, rfl⟩
  have hC1 : C ≤ N - k ∧ C ≤ most.toNat ∧ (N - k ≤ C ∨ most.toNat ≤ C) := by
    have h : C = min (N - k) most.toNat := by rw [hC, hN]; rfl
    omega
  have HH := Lib.hid H
  rw [← hN] at HH hL
  have HN := Lib.hid hN
  have HC := Lib.hid hC
  obtain ⟨_, z1, _⟩ := HH.out.cells
  have k0 : (0 : Int) ≤ (k : Int) := by omega
  clear H hN hC
  go_enter Try.func49, Try.ntmps49
  go_wp2
  clear z1
  go_loopw [7, 8] (fun s7 s8 wr => ∃ (m : Nat) (a2 : Option Addr) (c2 : Nat), s8 = .int .i64 ((k : Int) + (m : Int)) ∧ s7 = .slice a2 m c2 ∧ m ≤ C ∧ Hid (wr.ownsRow w.heap.size 34 6 (.slice a2 m c2) m (reqCs (comeQ L k m))) ∧ Hid (Below w.heap.size w wr)) (fun s7 _ _ => C - (match s7 with | .slice _ m _ => m | _ => 0))
  case atStart => exact ⟨0, none, 0, by simp, rfl, Nat.zero_le _, World.ownsRow_nil _ _ _ _, Below.refl _ _⟩
  case round =>
    obtain ⟨m, a2, c2, rfl, rfl, hm, HR, HW⟩ := hrel
    obtain ⟨_, z1, _⟩ := (HH.out.on HW.out).cells
    by_cases hlt : m < C
    · have hkL : k + m < L.length := by rw [← HN.out]; omega
      obtain ⟨rb, rc, hv, _, _, hc⟩ := (HH.out.on HW.out).all (k + m) hkL
      rw [← HN.out] at hv
      simp only [Value.slice.injEq] at hv
      obtain ⟨rfl, -, rfl⟩ := hv
      have km1 : (k : Int) + (m : Int) < (N : Int) := by omega
      have km0 : (0 : Int) ≤ (k : Int) + (m : Int) := by omega
      have mm1 : (m : Int) < most := by omega
      have ht : ((k : Int) + (m : Int)).toNat = k + m := by omega
      obtain ⟨x0, x1, x2, x3, x4, x5⟩ := hc
      have HE := Lib.hid (comeQ_next (L := L) (n := k) (i := m) hkL)
      generalize atL L (k + m) = r at x0 x1 x2 x3 x4 x5 HE
      obtain ⟨cl, sq, kd, id, mt, dt⟩ := r
      simp only at x0 x1 x2 x3 x4 x5
      clear hkL
      go_wp2_with (at_builtin; refine wpList_append_own_src rfl (.tmp 29) (.tmp 37) 29 29 rfl w.heap.size 34 i0 (.agg #[.int .i64 0, .int .i64 0, .int .i64 0, .int .i64 0, .int .i64 0, .string ⟨#[]⟩]) 6 56 Try.underlying29 hi hz0 hz1 hz2 rfl _ _ _ rfl (HR.out.alloc _) _ 1 (reqC ⟨cl, sq, kd, id, mt, dt⟩) rfl (req_src (heap_alloc_new wr _)) ?c3 ?c4 ?c5 ?_)
      case c3 => unfold maxLen; omega
      case c4 => omega
      case c5 => have := HW.out.size; simp; omega
      intro v3 w3 h3 g3
      obtain ⟨a3, c3, rfl⟩ := own_shape h3
      have H3 := Lib.hid h3
      have G3 : Hid (Below w.heap.size w w3) := (HW.out.alloc HW.out.size _).grown g3 (by have := HW.out.size; simp; omega) (fun b hb => (HR.out.lt b hb).1)
      clear h3 g3
      go_wp2
      go_roundw
      case rel => exact ⟨m + 1, a3, c3, by congr 1, rfl, by omega, by rw [HE.out, ← reqCs_app]; exact H3.out, G3.out⟩
      case measure => simp; omega
    · obtain rfl : m = C := by omega
      by_cases hkN : k + m < N
      · have h1 : (k : Int) + (m : Int) < (N : Int) := by omega
        have h2 : ¬ (m : Int) < most := by omega
        have hle : (comeQ L k m).length = m := comeQ_len (by rw [← HN.out]; omega)
        have HLE := Lib.hid hle
        clear hle
        go_wp2
        go_returns
        exact ⟨_, rfl, by rw [← HC.out, HLE.out]; exact HR.out, HW.out⟩
      · have h1 : ¬ (k : Int) + (m : Int) < (N : Int) := by omega
        have hle : (comeQ L k m).length = m := by unfold comeQ; rw [List.length_take, List.length_drop, ← HN.out]; omega
        have HLE := Lib.hid hle
        clear hle
        go_wp2
        go_returns
        exact ⟨_, rfl, by rw [← HC.out, HLE.out]; exact HR.out, HW.out⟩
set_option maxHeartbeats 400000 in
theorem qlsince_neg (_ : QLog n b q vq L c w) (k : Int) (hk : k < 0) (most : Int) :
    Calls Try.prog 49 #[.pointer (some ⟨b, 0, none⟩), .int .i64 k, .int .i64 most] w fun e w' => e = .returned (.slice none 0 0) ∧ w = w' := by
  have hn : ¬ (0 : Int) ≤ k := by omega
  clear hk
  go_enter Try.func49, Try.ntmps49
  go_wp2
  go_loopw [7, 8] (fun s7 s8 wr => s7 = .slice none 0 0 ∧ s8 = .int .i64 k ∧ w = wr) (fun _ _ _ => 0)
  case atStart => exact ⟨rfl, rfl, rfl⟩
  case round =>
    obtain ⟨rfl, rfl, rfl⟩ := hrel
    go_wp2
    go_returns
    exact ⟨rfl, rfl⟩

/-! ### First -/
set_option maxRecDepth 100000 in
set_option maxHeartbeats 2000000 in
theorem qlfirst_r (H : QLog n b q vq L c w) (hL : L.length ≤ 100000) (hok : okL L) (h1 : 1 ≤ q) (h2 : q ≤ 100) (k : Nat) (hk : k ≤ L.length) :
    Calls Try.prog 55 #[.pointer (some ⟨b, 0, none⟩), .int .i64 k] w fun e w' => e = .returned (.pointer (some ⟨w.heap.size, 0, none⟩)) ∧ Sto layR w' w.heap.size (stoOf q (L.take k)) ∧ Below w.heap.size w w' := by
  obtain ⟨a, cap, rfl⟩ := H.shape
  obtain ⟨N, hN⟩ : ∃ N, N = L.length := ⟨_, rfl⟩
  have HH := Lib.hid H
  rw [← hN] at HH hL hk
  have HN := Lib.hid hN
  have HOK := Lib.hid hok
  have HF : Hid (∀ j, Fit (stoOf q (L.take j)) (L.take j).length) := fun j => stoOf_fit h1 h2 _
  obtain ⟨z0, z1, _⟩ := HH.out.cells
  clear H hN hok h1 h2
  go_enter Try.func55, Try.ntmps55
  go_wp2
  obtain ⟨w2, hw2⟩ : ∃ x, x = w.alloc (.cells #[.int .i64 q, .int .i64 0, .slice none 0 0, .slice none 0 0, .slice none 0 0, .slice none 0 0, .slice none 0 0, .slice none 0 0, .slice none 0 0, .slice none 0 0, .slice none 0 0, .slice none 0 0, .slice none 0 0, .slice none 0 0, .slice none 0 0, .slice none 0 0, .slice none 0 0, .slice none 0 0, .slice none 0 0, .slice none 0 0, .slice none 0 0, .slice none 0 0, .slice none 0 0, .slice none 0 0, .slice none 0 0, .slice none 0 0, .slice none 0 0, .slice none 0 0, .slice none 0 0, .slice none 0 0, .slice none 0 0, .slice none 0 0, .slice none 0 0, .slice none 0 0, .int .i64 0, .int .i64 0, .int .i64 0, .int .i64 0, .int .i64 0, .int .i64 0, .int .i64 0, .int .i64 0, .int .i64 0, .int .i64 0, .string ⟨#[]⟩, .slice none 0 0, .int .i64 0, .int .i64 0, .string ⟨#[]⟩, .slice none 0 0, .int .i64 0, .int .i64 0, .string ⟨#[]⟩, .slice none 0 0, .int .i64 0, .int .i64 0, .string ⟨#[]⟩, .slice none 0 0] 146) := ⟨_, rfl⟩
  rw [← hw2]
  have al2 : Hid (Below w.heap.size w w2) := by rw [hw2]; exact (Below.refl _ _).alloc (Nat.le_refl _) _
  have T2 : Hid (Sto layR w2 w.heap.size (newV q)) := by
    obtain ⟨g1, g2⟩ := newG_row q #[.int .i64 q, .int .i64 0, .slice none 0 0, .slice none 0 0, .slice none 0 0, .slice none 0 0, .slice none 0 0, .slice none 0 0, .slice none 0 0, .slice none 0 0, .slice none 0 0, .slice none 0 0, .slice none 0 0, .slice none 0 0, .slice none 0 0, .slice none 0 0, .slice none 0 0, .slice none 0 0, .slice none 0 0, .slice none 0 0, .slice none 0 0, .slice none 0 0, .slice none 0 0, .slice none 0 0, .slice none 0 0, .slice none 0 0, .slice none 0 0, .slice none 0 0, .slice none 0 0, .slice none 0 0, .slice none 0 0, .slice none 0 0, .slice none 0 0, .slice none 0 0, .int .i64 0, .int .i64 0, .int .i64 0, .int .i64 0, .int .i64 0, .int .i64 0, .int .i64 0, .int .i64 0, .int .i64 0, .int .i64 0, .string ⟨#[]⟩, .slice none 0 0, .int .i64 0, .int .i64 0, .string ⟨#[]⟩, .slice none 0 0, .int .i64 0, .int .i64 0, .string ⟨#[]⟩, .slice none 0 0, .int .i64 0, .int .i64 0, .string ⟨#[]⟩, .slice none 0 0] (by rfl)
    rw [hw2]
    exact ⟨newG q, ⟨_, heap_alloc_new w _, g1, g2⟩, newG_tell q _⟩
  obtain ⟨bb, hbb⟩ : ∃ x, x = w.heap.size := ⟨_, rfl⟩
  rw [← hbb] at T2 ⊢
  have HBB := Lib.hid hbb
  clear hbb hw2 z0 z1
  go_loopw [6] (fun vi wr => ∃ j : Nat, j ≤ k ∧ vi = .int .i64 j ∧ Hid (Sto layR wr bb (stoOf q (L.take j))) ∧ Hid (Below w.heap.size w wr)) (fun vi _ => k - (intOf vi).toNat)
  case atStart => exact ⟨0, Nat.zero_le _, rfl, T2, al2⟩
  case round =>
    clear T2 al2
    obtain ⟨j, hj, rfl, HS, HW⟩ := hrel
    obtain ⟨_, z1, _⟩ := (HH.out.on HW.out).cells
    by_cases hlt : j < k
    · have hkL : j < L.length := by rw [← HN.out]; omega
      have hsz : (atL L j).data.size ≤ maxLen := by
        have hp := (HOK.out j hkL).1.1
        unfold ReqV.may at hp
        unfold maxLen
        omega
      obtain ⟨rb, rc, hv, _, _, hc⟩ := (HH.out.on HW.out).all j hkL
      rw [← HN.out] at hv
      simp only [Value.slice.injEq] at hv
      obtain ⟨rfl, -, rfl⟩ := hv
      have k0 : (0 : Int) ≤ (j : Int) := by omega
      have k1 : (j : Int) < (N : Int) := by omega
      have k2 : (j : Int) < (k : Int) := by omega
      obtain ⟨x0, x1, x2, x3, x4, x5⟩ := hc
      have HFj := Lib.hid (HF.out j)
      have hnx : stoOf q (L.take (j + 1)) = (putA (stoOf q (L.take j)) (atL L j)).s := by rw [take_next hkL, stoOf_app]
      have HPut : Hid (∀ u, Sto layR u bb (stoOf q (L.take j)) → Calls Try.prog 84 #[.pointer (some ⟨bb, 0, none⟩), .agg #[.int .i64 (atL L j).client, .int .i64 (atL L j).seq, .int .i64 (atL L j).kind, .int .i64 (atL L j).id, .int .i64 (atL L j).mtch, .string (atL L j).data]] u fun e w' => ∃ cd vr d x ao cp, e = .returned (.tuple #[.agg #[.int .i64 cd, .int .i64 vr, .string d, .slice ao 0 cp], .int .i64 x]) ∧ Besides bb u w' ∧ Hid (Sto layR w' bb (stoOf q (L.take (j + 1))))) := fun u hu => by
        obtain ⟨A, hA⟩ : ∃ A, putA (stoOf q (L.take j)) (atL L j) = A := ⟨_, rfl⟩
        have hc := rput_r bb (stoOf q (L.take j)) A.s (L.take j).length (atL L j).client (atL L j).seq (atL L j).kind (atL L j).id (atL L j).mtch (atL L j).data A.code A.ver A.data A.err (show _ = _ from hA) hsz HFj.out (by rw [List.length_take]; omega) u hu
        exact hc.mono fun e w' ⟨ao, cp, he, _, hb, hs⟩ => ⟨A.code, A.ver, A.data, A.err, ao, cp, he, hb, by rw [hnx, hA]; exact hs⟩
      generalize atL L j = r at x0 x1 x2 x3 x4 x5 HPut
      obtain ⟨cl, sq, kd, id, mt, dt⟩ := r
      simp only at x0 x1 x2 x3 x4 x5 HPut
      clear hkL hsz hnx
      go_wp2_with fail
      refine (HPut.out _ HS.out).mono ?_
      rintro e w3 ⟨cd, vr, d, x, ao, cp, rfl, hb, HS3⟩
      have HW3 : Hid (Below w.heap.size w w3) := hb.below HW.out (by rw [HBB.out]; exact Nat.le_refl _) HW.out.size
      clear hb HPut HS
      go_wp2
      go_roundw
      case rel => exact ⟨j + 1, by omega, by go_num, HS3, HW3⟩
      case measure => simp [intOf]; omega
    · obtain rfl : j = k := by omega
      have HW' := HW.out
      rw [← HBB.out] at HW'
      have HW2 := Lib.hid HW'
      clear HW'
      go_wp2
      go_returns
      rw [← HBB.out]
      exact ⟨rfl, HS.out, HW2.out⟩

/-! ### Reply -/
set_option maxRecDepth 100000 in
set_option maxHeartbeats 1000000 in
theorem qlreply_no (H : QLog n b q vq L c w) (k : Int) (hk : k < 1 ∨ (c : Int) < k) :
    Calls Try.prog 53 #[.pointer (some ⟨b, 0, none⟩), .int .i64 k] w fun e w' => e = .returned (.tuple #[.agg #[.int .i64 0, .int .i64 0, .string ⟨#[]⟩, .slice none 0 0], .int .i64 6]) ∧ Below w.heap.size w w' := by
  obtain ⟨w1, hw1⟩ : ∃ w1, w1 = w.alloc (.cells #[.int .i64 0, .int .i64 0, .string ⟨#[]⟩, .slice none 0 0] 48) := ⟨_, rfl⟩
  have B1 : Hid (Below w.heap.size w w1) := by rw [hw1]; exact (Below.refl _ _).alloc (Nat.le_refl _) _
  have R1 : Hid (RepAt w1 w.heap.size 0 0 ⟨#[]⟩ (.slice none 0 0)) := by rw [hw1]; exact RepAt.new _ _ _ _ _
  have HH := Lib.hid (H.on B1.out)
  have HW := Lib.hid hw1
  obtain ⟨B, hB⟩ : ∃ B, B = w.heap.size := ⟨_, rfl⟩
  rw [← hB] at R1
  have HB := Lib.hid hB
  have HE := Lib.hid (rep_stored (c' := 0) (n' := 0) (d' := ⟨#[]⟩) R1.out (.slice none 0 0)).cells.1
  have HST := Lib.hid (stored_below B1.out (show w.heap.size ≤ B by rw [hB]; exact Nat.le_refl _) 0 0 ⟨#[]⟩ (.slice none 0 0))
  clear H hw1 hB
  obtain ⟨_, _, z2⟩ := HH.out.cells
  obtain ⟨⟨x0, x1, x2, x3⟩, ⟨y0, y1, y2, y3⟩⟩ := R1.out.cells
  have lt1 := R1.out.lt
  by_cases h1 : k < 1
  · clear hk
    go_enter Try.func53, Try.ntmps53
    go_upto_region 1 with fail
    rw [← HW.out, ← HB.out]
    go_wp2
    obtain ⟨e0, e1, e2, e3⟩ := HE.out
    unfold stored at e0 e1 e2 e3
    exact bodyPost_ret (v := .tuple #[.agg #[.int .i64 0, .int .i64 0, .string ⟨#[]⟩, .slice none 0 0], .int .i64 6]) (by simp [results, Try.results53, go_sem, e0, e1, e2, e3]) rfl ⟨rfl, HST.out⟩
  · have h2 : (c : Int) < k := by omega
    have h3 : 1 ≤ k := by omega
    clear hk h1
    go_enter Try.func53, Try.ntmps53
    go_upto_region 1 with fail
    rw [← HW.out, ← HB.out]
    go_wp2
    obtain ⟨e0, e1, e2, e3⟩ := HE.out
    unfold stored at e0 e1 e2 e3
    exact bodyPost_ret (v := .tuple #[.agg #[.int .i64 0, .int .i64 0, .string ⟨#[]⟩, .slice none 0 0], .int .i64 6]) (by simp [results, Try.results53, go_sem, e0, e1, e2, e3]) rfl ⟨rfl, HST.out⟩
set_option maxRecDepth 100000 in
set_option maxHeartbeats 2000000 in
theorem qlreply_yes (H : QLog n b q vq L c w) (hL : L.length ≤ 100000) (hok : okL L) (hq1 : 1 ≤ q) (hq2 : q ≤ 100) (hcl : c ≤ L.length) (k : Nat) (hk : k < c) (cd vr : Int) (d : ByteArray) (s' : StoV) (x : Int) (hA : putA (stoOf q (L.take k)) (atL L k) = ⟨s', cd, vr, d, x⟩) :
    Calls Try.prog 53 #[.pointer (some ⟨b, 0, none⟩), .int .i64 ((k : Int) + 1)] w (RepR cd vr d w) := by
  obtain ⟨a, cap, rfl⟩ := H.shape
  obtain ⟨N, hN⟩ : ∃ N, N = L.length := ⟨_, rfl⟩
  obtain ⟨w1, hw1⟩ : ∃ w1, w1 = w.alloc (.cells #[.int .i64 0, .int .i64 0, .string ⟨#[]⟩, .slice none 0 0] 48) := ⟨_, rfl⟩
  have B1 : Hid (Below w.heap.size w w1) := by rw [hw1]; exact (Below.refl _ _).alloc (Nat.le_refl _) _
  have R1 : Hid (RepAt w1 w.heap.size 0 0 ⟨#[]⟩ (.slice none 0 0)) := by rw [hw1]; exact RepAt.new _ _ _ _ _
  have HFi : Hid (Calls Try.prog 55 #[.pointer (some ⟨b, 0, none⟩), .int .i64 k] w1 fun e w' => e = .returned (.pointer (some ⟨w1.heap.size, 0, none⟩)) ∧ Sto layR w' w1.heap.size (stoOf q (L.take k)) ∧ Below w1.heap.size w1 w') := qlfirst_r (H.on B1.out) hL hok hq1 hq2 k (by omega)
  have hkL : k < L.length := by omega
  have hsz : (atL L k).data.size ≤ maxLen := by
    have hp := (hok k hkL).1.1
    unfold ReqV.may at hp
    unfold maxLen
    omega
  have HPut : Hid (∀ p u, Sto layR u p (stoOf q (L.take k)) → Calls Try.prog 84 #[.pointer (some ⟨p, 0, none⟩), .agg #[.int .i64 (atL L k).client, .int .i64 (atL L k).seq, .int .i64 (atL L k).kind, .int .i64 (atL L k).id, .int .i64 (atL L k).mtch, .string (atL L k).data]] u (PutR layR p s' cd vr d x u)) := fun p u hu =>
    rput_r p (stoOf q (L.take k)) s' (L.take k).length (atL L k).client (atL L k).seq (atL L k).kind (atL L k).id (atL L k).mtch (atL L k).data cd vr d x (show _ = _ from hA) hsz (stoOf_fit hq1 hq2 _) (by rw [List.length_take]; omega) u hu
  have HH := Lib.hid (fun u (hu : Below w1.heap.size w1 u) => (H.on B1.out).on hu)
  rw [← hN] at HH
  have HCE : Hid (∀ u, Below w1.heap.size w1 u → ∃ rb, a = some ⟨rb, 0, none⟩ ∧ ReqCells u rb (k * 6) (atL L k)) := fun u hu => by
    obtain ⟨rb, rc, hv, _, _, hc⟩ := ((H.on B1.out).on hu).all k hkL
    simp only [Value.slice.injEq] at hv
    obtain ⟨rfl, -, rfl⟩ := hv
    exact ⟨rb, rfl, hc⟩
  have HW := Lib.hid hw1
  obtain ⟨B, hB⟩ : ∃ B, B = w.heap.size := ⟨_, rfl⟩
  rw [← hB] at R1
  have HB := Lib.hid hB
  obtain ⟨_, z1, z2⟩ := (HH.out w1 (Below.refl _ _)).cells
  obtain ⟨⟨x0, x1, x2, x3⟩, ⟨y0, y1, y2, y3⟩⟩ := R1.out.cells
  have k0 : (0 : Int) ≤ (k : Int) := by omega
  have k1 : (k : Int) < (N : Int) := by omega
  have k2 : ¬ (c : Int) < (k : Int) + 1 := by omega
  have k3 : (k : Int) ≤ 100000 := by omega
  generalize atL L k = r at HPut HCE
  obtain ⟨cl, sq, kd, id, mt, dt⟩ := r
  simp only at HPut
  clear H hw1 hB hok hL hq1 hq2 hcl hk hkL hsz hA hN
  go_enter Try.func53, Try.ntmps53
  go_upto_region 1 with fail
  rw [← HW.out, ← HB.out]
  go_wp2_with fail
  refine HFi.out.mono ?_
  obtain ⟨S1, hS1⟩ : ∃ p, p = w1.heap.size := ⟨_, rfl⟩
  rw [← hS1]
  rintro e w2 ⟨rfl, s2, b2⟩
  have HS1 := Lib.hid hS1
  have B2 : Hid (Below w1.heap.size w1 w2) := by rw [← hS1]; exact b2
  have S2 := Lib.hid s2
  have R2 := Lib.hid (R1.out.keep B2.out R1.out.lt)
  clear s2 b2 hS1 x0 x1 x2 x3 y0 y1 y2 y3 z1 z2
  obtain ⟨_, z1, z2⟩ := (HH.out w2 B2.out).cells
  obtain ⟨rb, rfl, q0, q1, q2, q3, q4, q5⟩ := HCE.out w2 B2.out
  simp only at q0 q1 q2 q3 q4 q5
  go_wp2_with fail
  refine (HPut.out _ _ S2.out).mono ?_
  rintro e w3 ⟨ao, cp, rfl, hn0, hb3, _⟩
  have B3 : Hid (Below w1.heap.size w1 w3) := hb3.below B2.out (by rw [HS1.out]; exact Nat.le_refl _) B2.out.size
  have N3 := Lib.hid hn0
  clear hn0 hb3 q0 q1 q2 q3 q4 q5 z1 z2 HPut HFi S2
  obtain ⟨D, hD⟩ : ∃ D, D = w3.heap.size := ⟨_, rfl⟩
  obtain ⟨w4, hw4⟩ : ∃ w4, w4 = w3.alloc (.cells #[.int .i64 cd, .int .i64 vr, .string d, .slice ao 0 cp] 48) := ⟨_, rfl⟩
  have B4 : Hid (Below w1.heap.size w1 w4) := by rw [hw4]; exact B3.out.alloc B3.out.size _
  have D4 : Hid (RepAt w4 D cd vr d (.slice ao 0 cp)) := by rw [hw4, hD]; exact RepAt.new _ _ _ _ _
  have R4 := Lib.hid (R1.out.keep B4.out R1.out.lt)
  have HW4 := Lib.hid hw4
  have HD := Lib.hid hD
  have HE := Lib.hid (rep_stored (c' := cd) (n' := vr) (d' := d) R4.out (.slice ao 0 cp)).cells.1
  have HST := Lib.hid (stored_below (B1.out.trans (B4.out.mono B1.out.size)) (show w.heap.size ≤ B by rw [← HB.out]; exact Nat.le_refl _) cd vr d (.slice ao 0 cp))
  clear hw4 hD
  go_upto_region 5 with fail
  rw [← HW4.out, ← HD.out]
  obtain ⟨⟨x0, x1, x2, x3⟩, ⟨y0, y1, y2, y3⟩⟩ := R4.out.cells
  obtain ⟨⟨u0, u1, u2, u3⟩, _⟩ := D4.out.cells
  have lt1 := R4.out.lt
  go_wp2
  obtain ⟨e0, e1, e2, e3⟩ := HE.out
  unfold stored at e0 e1 e2 e3
  exact bodyPost_ret (v := .tuple #[.agg #[.int .i64 cd, .int .i64 vr, .string d, .slice ao 0 cp], .int .i64 0]) (by simp [results, Try.results53, go_sem, e0, e1, e2, e3]) rfl ⟨ao, cp, rfl, N3.out, HST.out⟩
end
end Go.Proofs.Ytenjjgghoacboaa

/-! ## LnJ -/
/-
  THE REFERENCE's LOG: Put, Take. Of at most a hundred thousand requests. Written by gen/XLnJ.gen.py.
-/
namespace Go.Proofs.Ytenjjgghoacboaa
open Go.RowKit

theorem alloc_keepJ {w : World} {b : Nat} {o' : Obj} (o : Obj) (h : w.heap[b]? = some o') : (w.alloc o).heap[b]? = some o' := (Below.heap_alloc w o b (Array.getElem?_eq_some_iff.1 h).1).trans h
theorem srcR18 {u : World} {p : Nat} {cl sq kd id mt : Int} {dt : ByteArray} (h : u.heap[p]? = some (.cells #[.int .i64 cl, .int .i64 sq, .int .i64 kd, .int .i64 id, .int .i64 mt, .string dt] 34 (0, 0))) : Src Try.prog 6 29 (.slice (some ⟨p, 0, none⟩) 1 1) 1 (reqC ⟨cl, sq, kd, id, mt, dt⟩) u := req_src (r := ⟨cl, sq, kd, id, mt, dt⟩) h
theorem src_rows {u : World} {base : Nat} {v : Value} {L : List ReqV} (h : u.ownsRow base 34 6 v L.length (reqCs L)) : Src Try.prog 6 29 v L.length (reqCs L) u := by
  have hone : ∀ x ∈ reqCs L, x.oneCell' = true := fun x hx => by
    obtain ⟨r, _, hr⟩ := List.mem_flatMap.1 hx
    exact reqC_one r x hr
  have hlen := h.1
  rcases h.2 with ⟨rfl, h0⟩ | ⟨g, cap, cur, rfl, _, _⟩
  · have hL : L = [] := List.eq_nil_of_length_eq_zero h0
    subst hL
    exact Src.ofNil _ Try.underlying29 0
  · exact Src.ofSlice _ Try.underlying29 ⟨g, 0, none⟩ L.length cap (reqCs L) hlen (fun j x hj => h.cells (g := g) rfl j x hj) hone
theorem ql_set {P : World} {b : Nat} {q c : Int} {v0 : Value} (h : P.heap[b]? = some (.cells #[.int .i64 q, v0, .int .i64 c] 31 (0, 0))) (v : Value) : (P.setCell ⟨b, 1, none⟩ v).heap[b]? = some (.cells #[.int .i64 q, v, .int .i64 c] 31 (0, 0)) := by
  rw [heap_setCell_same _ _ _ _ _ _ h]
  rfl
theorem own_atJ {w w' : World} {b base : Nat} {e T : TypeId} {size n : Nat} {v : Value} {xs : List Value} {cs : Array Value} (hr : w.ownsRow base e size v n xs) (h : w.heap[b]? = some (.cells cs T (0, 0))) (hT : T ≠ e) (ho : Only (· = b) w w') : w'.ownsRow base e size v n xs := by
  refine ⟨hr.1, ?_⟩
  rcases hr.2 with h0 | ⟨g, cap, cur, rfl, hg, hh, h3⟩
  · exact .inl h0
  · refine .inr ⟨g, cap, cur, rfl, hg, (ho.block g (lt_of_block hh) (fun e' => ?_)).trans hh, h3⟩
    rw [e', h] at hh
    simp only [Option.some.injEq, Obj.cells.injEq] at hh
    exact hT hh.2.1
/-- What Put makes of the reference's log. -/
def QPutR (n b : Nat) (q : Int) (vq : Value) (L' : List ReqV) (p x : Int) (c : Nat) (w : World) (e : Ending) (w' : World) : Prop :=
  e = .returned (.tuple #[.int .i64 p, .int .i64 x]) ∧ ∃ vq', QLog n b q vq' L' c w' ∧ Only (· = b) w w' ∧ (vq' = vq ∨ ∀ y, vq'.ownBlock = some y → w.heap.size ≤ y)
section
variable {n b : Nat} {q : Int} {vq : Value} {L : List ReqV} {c : Nat} {w : World}
set_option maxHeartbeats 1000000 in
theorem qlput_bad1 (H : QLog n b q vq L c w) (cl sq kd id mt : Int) (dt : ByteArray) (HM : Hid (∀ u, Calls Try.prog 73 #[.agg #[.int .i64 cl, .int .i64 sq, .int .i64 kd, .int .i64 id, .int .i64 mt, .string dt]] u fun e w' => e = .returned (.bool false) ∧ Below u.heap.size u w')) :
    Calls Try.prog 47 #[.pointer (some ⟨b, 0, none⟩), .agg #[.int .i64 cl, .int .i64 sq, .int .i64 kd, .int .i64 id, .int .i64 mt, .string dt]] w (QPutR n b q vq L 0 1 c w) := by
  have HH := Lib.hid H
  clear H
  go_enter Try.func47, Try.ntmps47
  go_wp2_with fail
  refine (HM.out _).mono ?_
  rintro e w1 ⟨rfl, b1⟩
  have B1 : Hid (Below w.heap.size w w1) := ((Below.refl _ w).alloc (Nat.le_refl _) _).trans (b1.mono (by simp))
  clear b1
  go_wp2
  go_returns
  exact ⟨rfl, vq, HH.out.on B1.out, .of B1.out, .inl rfl⟩
set_option maxHeartbeats 1000000 in
theorem qlput_bad2 (H : QLog n b q vq L c w) (cl sq kd id mt : Int) (dt : ByteArray) (HM : Hid (∀ u, Calls Try.prog 73 #[.agg #[.int .i64 cl, .int .i64 sq, .int .i64 kd, .int .i64 id, .int .i64 mt, .string dt]] u fun e w' => e = .returned (.bool true) ∧ Below u.heap.size u w'))
    (HW : Hid (∀ u, Calls Try.prog 83 #[.agg #[.int .i64 cl, .int .i64 sq, .int .i64 kd, .int .i64 id, .int .i64 mt, .string dt]] u fun e w' => e = .returned (.bool false) ∧ Below u.heap.size u w')) :
    Calls Try.prog 47 #[.pointer (some ⟨b, 0, none⟩), .agg #[.int .i64 cl, .int .i64 sq, .int .i64 kd, .int .i64 id, .int .i64 mt, .string dt]] w (QPutR n b q vq L 0 1 c w) := by
  have HH := Lib.hid H
  clear H
  go_enter Try.func47, Try.ntmps47
  go_wp2_with fail
  refine (HM.out _).mono ?_
  rintro e w1 ⟨rfl, b1⟩
  have B1 : Hid (Below w.heap.size w w1) := ((Below.refl _ w).alloc (Nat.le_refl _) _).trans (b1.mono (by simp))
  have R1 : Hid (ReqB w1 w.heap.size cl sq kd id mt dt) := (ReqB.fresh w cl sq kd id mt dt 34).keep b1 (by simp)
  obtain ⟨x0, x1, x2, x3, x4, x5⟩ := R1.out.cells
  clear b1
  go_wp2_with fail
  refine (HW.out _).mono ?_
  rintro e w2 ⟨rfl, b2⟩
  have B2 := Lib.hid (B1.out.trans (b2.mono B1.out.size))
  clear b2 x0 x1 x2 x3 x4 x5
  go_wp2
  go_returns
  exact ⟨rfl, vq, HH.out.on B2.out, .of B2.out, .inl rfl⟩
set_option maxRecDepth 100000 in
set_option maxHeartbeats 4000000 in
theorem qlput_may (H : QLog n b q vq L c w) (hn : n ≤ w.heap.size) (hL : L.length ≤ 100000) (cl sq kd id mt : Int) (dt : ByteArray) (HM : Hid (∀ u, Calls Try.prog 73 #[.agg #[.int .i64 cl, .int .i64 sq, .int .i64 kd, .int .i64 id, .int .i64 mt, .string dt]] u fun e w' => e = .returned (.bool true) ∧ Below u.heap.size u w'))
    (HW : Hid (∀ u, Calls Try.prog 83 #[.agg #[.int .i64 cl, .int .i64 sq, .int .i64 kd, .int .i64 id, .int .i64 mt, .string dt]] u fun e w' => e = .returned (.bool true) ∧ Below u.heap.size u w')) (M : Int) (hM : seqR L cl = M) :
    Calls Try.prog 47 #[.pointer (some ⟨b, 0, none⟩), .agg #[.int .i64 cl, .int .i64 sq, .int .i64 kd, .int .i64 id, .int .i64 mt, .string dt]] w
      (if sq ≤ M then QPutR n b q vq L 0 9 c w else QPutR n b q vq (L ++ [⟨cl, sq, kd, id, mt, dt⟩]) ((L.length : Int) + 1) 0 c w) := by
  obtain ⟨i0, hi, hz0, hz1, hz2⟩ := info_parts info_Req18
  obtain ⟨a, cap, rfl⟩ := H.shape
  obtain ⟨m, hm⟩ : ∃ m, m = L.length := ⟨_, rfl⟩
  have HH := Lib.hid H
  have HM2 := Lib.hid hm
  have HSq : Hid (∀ u, Below w.heap.size w u → Calls Try.prog 51 #[.pointer (some ⟨b, 0, none⟩), .int .i64 cl] u fun e w' => e = .returned (.int .i64 M) ∧ Below u.heap.size u w') := fun u hu => qlseq_r (HH.out.on hu) hL cl M hM
  have HNW := Lib.hid hn
  rw [← hm] at HH ⊢
  have hm1 : m ≤ 100000 := by omega
  clear H hM hm hL hn
  have key : ∀ y0, y0 = decide (sq ≤ M) → Calls Try.prog 47 #[.pointer (some ⟨b, 0, none⟩), .agg #[.int .i64 cl, .int .i64 sq, .int .i64 kd, .int .i64 id, .int .i64 mt, .string dt]] w (if y0 = true then QPutR n b q (.slice a m cap) L 0 9 c w else QPutR n b q (.slice a m cap) (L ++ [⟨cl, sq, kd, id, mt, dt⟩]) ((m : Int) + 1) 0 c w) := by
    intro y0 hy0
    go_enter Try.func47, Try.ntmps47
    go_wp2_with fail
    refine (HM.out _).mono ?_
    rintro e w1 ⟨rfl, b1⟩
    have B1 : Hid (Below w.heap.size w w1) := ((Below.refl _ w).alloc (Nat.le_refl _) _).trans (b1.mono (by simp))
    have R1 : Hid (ReqB w1 w.heap.size cl sq kd id mt dt) := (ReqB.fresh w cl sq kd id mt dt 34).keep b1 (by simp)
    obtain ⟨x0, x1, x2, x3, x4, x5⟩ := R1.out.cells
    clear b1
    go_wp2_with fail
    refine (HW.out _).mono ?_
    rintro e w2 ⟨rfl, b2⟩
    have B2 := Lib.hid (B1.out.trans (b2.mono B1.out.size))
    have R2 := Lib.hid (R1.out.keep b2 R1.out.lt)
    clear b2 x0 x1 x2 x3 x4 x5 B1 R1
    obtain ⟨B, hB⟩ : ∃ B, B = w.heap.size := ⟨_, rfl⟩
    rw [← hB] at R2
    have HBB := Lib.hid hB
    go_upto_region 3 with fail
    rw [← hB]
    clear hB
    obtain ⟨x0, x1, x2, x3, x4, x5⟩ := R2.out.cells
    go_cut [20] (fun s20 wc => s20 = .bool y0 ∧ Hid (Below w2.heap.size w2 wc))
    case first =>
      go_region_held3 (fun u => u.cell? ⟨B, 0, none⟩ = some (.int .i64 cl) ∧ u.cell? ⟨B, 1, none⟩ = some (.int .i64 sq)) (first | assumption | go_keep)
        (first
          | (go_at_call 51
             refine (HSq.out _ (B2.out.trans ((show Below w2.heap.size w2 _ by go_grown).mono B2.out.size))).mono ?_
             rintro e wa ⟨rfl, hb⟩
             have G3 := Lib.hid ((show Below w2.heap.size w2 _ by go_grown).trans hb)
             obtain ⟨y0', y1', _, _, _, _⟩ := (R2.out.keep G3.out R2.out.lt).cells
             clear hb))
      go_wp2
      go_meet
      exact ⟨by rw [hy0], G3.out⟩
    case rest =>
    obtain ⟨rfl, G3⟩ := hcut
    have B3 := Lib.hid (B2.out.trans (G3.out.mono B2.out.size))
    have R3 := Lib.hid (R2.out.keep G3.out R2.out.lt)
    clear x0 x1 x2 x3 x4 x5 G3 B2 R2 HM HW HSq hy0
    cases y0 with
    | true =>
      go_wp2
      go_returns
      exact ⟨rfl, .slice a m cap, HH.out.on B3.out, .of B3.out, .inl rfl⟩
    | false =>
      obtain ⟨W, hW⟩ : ∃ W, W = wc := ⟨_, rfl⟩
      rw [← hW] at B3 R3
      have HBK : Hid (∀ u, Below W.heap.size W u → u.heap[b]? = some (.cells #[.int .i64 q, .slice a m cap, .int .i64 c] 31 (0, 0))) := fun u hu => ((HH.out.on B3.out).on hu).blk
      have HFX : Hid (∀ u, Below W.heap.size W u → (fun u => u.cell? ⟨B, 0, none⟩ = some (.int .i64 cl) ∧ u.cell? ⟨B, 1, none⟩ = some (.int .i64 sq) ∧ u.cell? ⟨B, 2, none⟩ = some (.int .i64 kd) ∧ u.cell? ⟨B, 3, none⟩ = some (.int .i64 id) ∧ u.cell? ⟨B, 4, none⟩ = some (.int .i64 mt) ∧ u.cell? ⟨B, 5, none⟩ = some (.string dt)) u) := fun u hu => (R3.out.keep hu R3.out.lt).cells
      have HS := HFX
      have HLD : Hid (∀ u, Below W.heap.size W u → u.cell? ⟨b, 1, none⟩ = some (.slice a m cap)) := fun u hu => by rw [cell_of_row _ _ _ _ _ _ (HBK.out u hu)]; rfl
      have HFZ : Hid (∀ u, Below W.heap.size W u → u.frozen? ⟨b, 1, none⟩ = false) := fun u hu => by have h := HBK.out u hu; simp [World.frozen?, h]
      have HSA : Hid (∀ u, Below W.heap.size W u → Src Try.prog 6 29 (.slice a m cap) m (reqCs L) u) := fun u hu => by
        have h := ((HH.out.on B3.out).on hu).row
        have h' := src_rows h
        rwa [← HM2.out] at h'
      have HBW : Hid (b < W.heap.size) := lt_of_block (HH.out.on B3.out).blk
      have HBNE : Hid (¬ B = b) := fun e => by
        obtain ⟨t0, r0⟩ := R3.out
        have h0 := HBK.out W (Below.refl _ _)
        rw [← e, r0] at h0
        simp at h0
      go_upto_region 5 with fail
      rw [← hW]
      go_cut [3] (fun s3 wd => s3 = .pointer (some ⟨B, 0, none⟩) ∧ ∃ (a3 : Option Addr) (c3 : Nat), Hid (wd.heap[b]? = some (.cells #[.int .i64 q, .slice a3 (m + 1) c3, .int .i64 c] 31 (0, 0))) ∧ Hid (wd.ownsRow W.heap.size 34 6 (.slice a3 (m + 1) c3) (m + 1) (reqCs L ++ reqC ⟨cl, sq, kd, id, mt, dt⟩)) ∧ Hid (Only (· = b) W wd))
      case first =>
        refine wp_region_held_drew (S := (fun u => u.cell? ⟨B, 0, none⟩ = some (.int .i64 cl) ∧ u.cell? ⟨B, 1, none⟩ = some (.int .i64 sq) ∧ u.cell? ⟨B, 2, none⟩ = some (.int .i64 kd) ∧ u.cell? ⟨B, 3, none⟩ = some (.int .i64 id) ∧ u.cell? ⟨B, 4, none⟩ = some (.int .i64 mt) ∧ u.cell? ⟨B, 5, none⟩ = some (.string dt))) (by kernel_rfl) (HS.out _ (Below.refl W.heap.size W).drew) (fun hHeld => ?_)
        first
          | (refine held_take 0 21 (v := ?_) rfl rfl (by kernel_rfl) (by kernel_rfl) (by kernel_rfl) (fun _ _ _ h => h) (by assumption) (by rfl) ?_ ?_; rotate_left; (focus (intro w hSw; (obtain ⟨x0, x1, x2, x3, x4, x5⟩ := hSw); go_simp <;> with_reducible rfl)))
          | refine held_pass 0 21 rfl rfl (by kernel_rfl) (by kernel_rfl) (by kernel_rfl) (fun _ _ _ h => h) (by assumption) (by rfl) ?_
        simp only [Act.put, List.setIfInBounds_toArray, List.set_cons_zero, List.set_cons_succ]
        first
          | (refine held_take 2 23 (v := ?_) rfl rfl (by kernel_rfl) (by kernel_rfl) (by kernel_rfl) (fun _ _ _ h => h) (by assumption) (by rfl) ?_ ?_; rotate_left; (focus (intro w hSw; (obtain ⟨x0, x1, x2, x3, x4, x5⟩ := hSw); go_simp <;> with_reducible rfl)))
          | refine held_pass 2 23 rfl rfl (by kernel_rfl) (by kernel_rfl) (by kernel_rfl) (fun _ _ _ h => h) (by assumption) (by rfl) ?_
        simp only [Act.put, List.setIfInBounds_toArray, List.set_cons_zero, List.set_cons_succ]
        first
          | (refine held_take 3 24 (v := ?_) rfl rfl (by kernel_rfl) (by kernel_rfl) (by kernel_rfl) (fun _ _ _ h => h) (by assumption) (by rfl) ?_ ?_; rotate_left; (focus (intro w hSw; (obtain ⟨x0, x1, x2, x3, x4, x5⟩ := hSw); go_simp <;> with_reducible rfl)))
          | refine held_pass 3 24 rfl rfl (by kernel_rfl) (by kernel_rfl) (by kernel_rfl) (fun _ _ _ h => h) (by assumption) (by rfl) ?_
        simp only [Act.put, List.setIfInBounds_toArray, List.set_cons_zero, List.set_cons_succ]
        first
          | (refine held_take 4 25 (v := ?_) rfl rfl (by kernel_rfl) (by kernel_rfl) (by kernel_rfl) (fun _ _ _ h => h) (by assumption) (by rfl) ?_ ?_; rotate_left; (focus (intro w hSw; (obtain ⟨x0, x1, x2, x3, x4, x5⟩ := hSw); go_simp <;> with_reducible rfl)))
          | refine held_pass 4 25 rfl rfl (by kernel_rfl) (by kernel_rfl) (by kernel_rfl) (fun _ _ _ h => h) (by assumption) (by rfl) ?_
        simp only [Act.put, List.setIfInBounds_toArray, List.set_cons_zero, List.set_cons_succ]
        first
          | (refine held_take 7 28 (v := ?_) rfl rfl (by kernel_rfl) (by kernel_rfl) (by kernel_rfl) (fun _ _ _ h => h) (by assumption) (by rfl) ?_ ?_; rotate_left; (focus (intro w hSw; (obtain ⟨x0, x1, x2, x3, x4, x5⟩ := hSw); go_simp <;> with_reducible rfl)))
          | refine held_pass 7 28 rfl rfl (by kernel_rfl) (by kernel_rfl) (by kernel_rfl) (fun _ _ _ h => h) (by assumption) (by rfl) ?_
        simp only [Act.put, List.setIfInBounds_toArray, List.set_cons_zero, List.set_cons_succ]
        obtain ⟨u0, hN⟩ : ∃ u, u = W.drew := ⟨_, rfl⟩
        rw [← hN] at hHeld ⊢
        have Bu0 : Hid (Below W.heap.size W u0) := by rw [hN]; exact (Below.refl W.heap.size W).drew
        clear hN
        refine wpAnyH_ready (rs := [1, 5, 8]) (by kernel_rfl) (by simp) (AllReadyH.cons rfl (fun K hK => ?_) (AllReadyH.cons rfl (fun K hK => ?_) (AllReadyH.cons rfl (fun K hK => ?_) AllReadyH.nil)))
        · try simp only [Go.wp_at_succ, Go.wp_at_zero]
          go_simp
          refine hK.out _ _ (HS.out _ (Bu0.out.alloc Bu0.out.size _)) (fun hHeld => ?_)
          clear hK K
          try simp only [Act.put, List.setIfInBounds_toArray, List.set_cons_zero, List.set_cons_succ]
          obtain ⟨u1, hN⟩ : ∃ u, u = u0.alloc (.cells #[] 34) := ⟨_, rfl⟩
          rw [← hN] at hHeld ⊢
          have Bu1 : Hid (Below W.heap.size W u1) := by rw [hN]; exact Bu0.out.alloc Bu0.out.size _
          have Eu1 : Hid (u1.heap[u0.heap.size]? = some (.cells #[] 34 (0, 0))) := by rw [hN]; exact heap_alloc_new u0 _
          clear hN
          refine wpAnyH_ready (rs := [5, 8]) (by kernel_rfl) (by simp) (AllReadyH.cons rfl (fun K hK => ?_) (AllReadyH.cons rfl (fun K hK => ?_) AllReadyH.nil))
          · try simp only [Go.wp_at_succ, Go.wp_at_zero]
            have hl := HLD.out _ Bu1.out
            go_simp
            refine hK.out _ _ (HS.out _ Bu1.out) (fun hHeld => ?_)
            clear hK K hl
            try simp only [Act.put, List.setIfInBounds_toArray, List.set_cons_zero, List.set_cons_succ]
            refine wpAnyH_ready (rs := [6, 8]) (by kernel_rfl) (by simp) (AllReadyH.cons rfl (fun K hK => ?_) (AllReadyH.cons rfl (fun K hK => ?_) AllReadyH.nil))
            · have HRu : Hid (u1.ownsRow W.heap.size 34 6 (.slice (some ⟨u0.heap.size, 0, none⟩) 0 0) 0 []) := ⟨rfl, .inr ⟨u0.heap.size, 0, #[], rfl, Bu0.out.size, Eu1.out, Nat.le_refl _, Nat.zero_le _, rfl, rfl⟩⟩
              refine stepApp rfl (.tmp 22) (.tmp 26) 29 29 rfl W.heap.size 34 i0 (.agg #[.int .i64 0, .int .i64 0, .int .i64 0, .int .i64 0, .int .i64 0, .string ⟨#[]⟩]) 6 56 Try.underlying29 hi hz0 hz1 hz2 rfl (.slice (some ⟨u0.heap.size, 0, none⟩) 0 0) _ _ rfl HRu.out _ m (reqCs L) rfl (HSA.out _ Bu1.out) ?c3 ?c4 ?c5 ?_
              case c3 => unfold maxLen; omega
              case c4 => omega
              case c5 => exact Bu1.out.size
              intro vu2 u2 O G
              have Bu2 : Hid (Below W.heap.size W u2) := Bu1.out.grown G Bu1.out.size (fun y hy => (HRu.out.lt y hy).1)
              rw [Nat.zero_add, List.nil_append] at O
              obtain ⟨au2, cu2, rfl⟩ := own_shape O
              have Ru2 := Lib.hid O
              clear O G
              refine hK.out _ _ (HS.out _ Bu2.out) (fun hHeld => ?_)
              clear hK K
              try simp only [Act.put]
              try simp only [List.setIfInBounds_toArray]
              refine wpAnyH_ready (rs := [8]) (by kernel_rfl) (by simp) (AllReadyH.cons rfl (fun K hK => ?_) AllReadyH.nil)
              try simp only [Go.wp_at_succ, Go.wp_at_zero]
              go_simp
              refine hK.out _ _ (HS.out _ (Bu2.out.alloc Bu2.out.size _)) (fun hHeld => ?_)
              clear hK K
              try simp only [Act.put, List.setIfInBounds_toArray, List.set_cons_zero, List.set_cons_succ]
              obtain ⟨u3, hN⟩ : ∃ u, u = u2.alloc (.cells #[.int .i64 cl, .int .i64 sq, .int .i64 kd, .int .i64 id, .int .i64 mt, .string dt] 34) := ⟨_, rfl⟩
              rw [← hN] at hHeld ⊢
              have Bu3 : Hid (Below W.heap.size W u3) := by rw [hN]; exact Bu2.out.alloc Bu2.out.size _
              have Xu3 : Hid (u3.heap[u2.heap.size]? = some (.cells #[.int .i64 cl, .int .i64 sq, .int .i64 kd, .int .i64 id, .int .i64 mt, .string dt] 34 (0, 0))) := by rw [hN]; exact heap_alloc_new u2 _
              have Ru3 := Lib.hid (Ru2.out.alloc (.cells #[.int .i64 cl, .int .i64 sq, .int .i64 kd, .int .i64 id, .int .i64 mt, .string dt] 34))
              rw [← hN] at Ru3
              clear hN
              refine wpAnyH_ready (rs := [9]) (by kernel_rfl) (by simp) (AllReadyH.cons rfl (fun K hK => ?_) AllReadyH.nil)
              refine stepApp rfl (.tmp 27) (.tmp 29) 29 29 rfl W.heap.size 34 i0 (.agg #[.int .i64 0, .int .i64 0, .int .i64 0, .int .i64 0, .int .i64 0, .string ⟨#[]⟩]) 6 56 Try.underlying29 hi hz0 hz1 hz2 rfl (.slice au2 m cu2) _ _ rfl Ru3.out _ 1 (reqC ⟨cl, sq, kd, id, mt, dt⟩) rfl (srcR18 Xu3.out) ?c3 ?c4 ?c5 ?_
              case c3 => unfold maxLen; omega
              case c4 => omega
              case c5 => exact Bu3.out.size
              intro vu4 u4 O G
              have Bu4 : Hid (Below W.heap.size W u4) := Bu3.out.grown G Bu3.out.size (fun y hy => (Ru3.out.lt y hy).1)
              obtain ⟨au4, cu4, rfl⟩ := ownsRow_succ O
              have Ru4 := Lib.hid O
              clear O G
              refine hK.out _ _ (HS.out _ Bu4.out) (fun hHeld => ?_)
              clear hK K
              try simp only [Act.put]
              try simp only [List.setIfInBounds_toArray]
              first
                | (refine held_take 10 31 (v := ?_) rfl rfl (by kernel_rfl) (by kernel_rfl) (by kernel_rfl) (fun _ _ _ h => h) (by assumption) (by rfl) ?_ ?_; rotate_left; (focus (intro w hSw; (try dsimp only at hSw); go_simp <;> with_reducible rfl)))
                | refine held_pass 10 31 rfl rfl (by kernel_rfl) (by kernel_rfl) (by kernel_rfl) (fun _ _ _ h => h) (by assumption) (by rfl) ?_
              try simp only [Act.put]
              try simp only [List.setIfInBounds_toArray]
              first
                | (refine held_take 11 32 (v := ?_) rfl rfl (by kernel_rfl) (by kernel_rfl) (by kernel_rfl) (fun _ _ _ h => h) (by assumption) (by rfl) ?_ ?_; rotate_left; (focus (intro w hSw; (try dsimp only at hSw); go_simp <;> with_reducible rfl)))
                | refine held_pass 11 32 rfl rfl (by kernel_rfl) (by kernel_rfl) (by kernel_rfl) (fun _ _ _ h => h) (by assumption) (by rfl) ?_
              try simp only [Act.put]
              try simp only [List.setIfInBounds_toArray]
              have hcell := HLD.out _ Bu4.out
              have hfz := HFZ.out _ Bu4.out
              have hbk := HBK.out _ Bu4.out
              have hrw := R3.out.keep Bu4.out R3.out.lt
              refine wpAnyH_ready (rs := [12]) (by kernel_rfl) (by simp) (AllReadyH.cons rfl (fun K hK => ?_) AllReadyH.nil)
              try simp only [Go.wp_at_succ, Go.wp_at_zero]
              go_simp
              have K1 := Lib.hid (ql_set hbk (.slice (some ⟨au4, 0, none⟩) (m + 1) cu4))
              have K2 := Lib.hid (own_atJ Ru4.out hbk (by decide) (Only.set b 1 u4 (.slice (some ⟨au4, 0, none⟩) (m + 1) cu4)))
              have K3 := Lib.hid ((Only.of (S := fun k => k = b) Bu4.out).trans (Only.set b 1 u4 (.slice (some ⟨au4, 0, none⟩) (m + 1) cu4)))
              have K4 : Hid ((fun u => u.cell? ⟨B, 0, none⟩ = some (.int .i64 cl) ∧ u.cell? ⟨B, 1, none⟩ = some (.int .i64 sq) ∧ u.cell? ⟨B, 2, none⟩ = some (.int .i64 kd) ∧ u.cell? ⟨B, 3, none⟩ = some (.int .i64 id) ∧ u.cell? ⟨B, 4, none⟩ = some (.int .i64 mt) ∧ u.cell? ⟨B, 5, none⟩ = some (.string dt)) (u4.setCell ⟨b, 1, none⟩ (.slice (some ⟨au4, 0, none⟩) (m + 1) cu4))) := (hrw.only (Only.set b 1 u4 (.slice (some ⟨au4, 0, none⟩) (m + 1) cu4)) HBNE.out).cells
              clear hcell hfz hbk hrw
              refine hK.out _ _ K4.out (fun hHeld => ?_)
              clear hK K
              try simp only [Act.put]
              refine wpAnyH_done (by kernel_rfl) ?_ _
              go_wp2
              go_meet
              exact ⟨rfl, _, _, K1.out, K2.out, K3.out⟩
            · try simp only [Go.wp_at_succ, Go.wp_at_zero]
              go_simp
              refine hK.out _ _ (HS.out _ (Bu1.out.alloc Bu1.out.size _)) (fun hHeld => ?_)
              clear hK K
              try simp only [Act.put, List.setIfInBounds_toArray, List.set_cons_zero, List.set_cons_succ]
              obtain ⟨u2, hN⟩ : ∃ u, u = u1.alloc (.cells #[.int .i64 cl, .int .i64 sq, .int .i64 kd, .int .i64 id, .int .i64 mt, .string dt] 34) := ⟨_, rfl⟩
              rw [← hN] at hHeld ⊢
              have Bu2 : Hid (Below W.heap.size W u2) := by rw [hN]; exact Bu1.out.alloc Bu1.out.size _
              have Eu2 : Hid (u2.heap[u0.heap.size]? = some (.cells #[] 34 (0, 0))) := by rw [hN]; exact alloc_keepJ _ Eu1.out
              have Xu2 : Hid (u2.heap[u1.heap.size]? = some (.cells #[.int .i64 cl, .int .i64 sq, .int .i64 kd, .int .i64 id, .int .i64 mt, .string dt] 34 (0, 0))) := by rw [hN]; exact heap_alloc_new u1 _
              clear hN
              refine wpAnyH_ready (rs := [6]) (by kernel_rfl) (by simp) (AllReadyH.cons rfl (fun K hK => ?_) AllReadyH.nil)
              have HRu : Hid (u2.ownsRow W.heap.size 34 6 (.slice (some ⟨u0.heap.size, 0, none⟩) 0 0) 0 []) := ⟨rfl, .inr ⟨u0.heap.size, 0, #[], rfl, Bu0.out.size, Eu2.out, Nat.le_refl _, Nat.zero_le _, rfl, rfl⟩⟩
              refine stepApp rfl (.tmp 22) (.tmp 26) 29 29 rfl W.heap.size 34 i0 (.agg #[.int .i64 0, .int .i64 0, .int .i64 0, .int .i64 0, .int .i64 0, .string ⟨#[]⟩]) 6 56 Try.underlying29 hi hz0 hz1 hz2 rfl (.slice (some ⟨u0.heap.size, 0, none⟩) 0 0) _ _ rfl HRu.out _ m (reqCs L) rfl (HSA.out _ Bu2.out) ?c3 ?c4 ?c5 ?_
              case c3 => unfold maxLen; omega
              case c4 => omega
              case c5 => exact Bu2.out.size
              intro vu3 u3 O G
              have Bu3 : Hid (Below W.heap.size W u3) := Bu2.out.grown G Bu2.out.size (fun y hy => (HRu.out.lt y hy).1)
              rw [Nat.zero_add, List.nil_append] at O
              have Xu3 : Hid (u3.heap[u1.heap.size]? = some (.cells #[.int .i64 cl, .int .i64 sq, .int .i64 kd, .int .i64 id, .int .i64 mt, .string dt] 34 (0, 0))) := (G.block _ (Array.getElem?_eq_some_iff.1 Xu2.out).1 (fun e => by have h := Xu2.out.symm.trans (show u2.heap[u1.heap.size]? = some (.cells #[] 34 (0, 0)) from by rw [show u1.heap.size = u0.heap.size by simpa [Value.ownBlock] using e]; exact Eu2.out); simp at h)).trans Xu2.out
              obtain ⟨au3, cu3, rfl⟩ := own_shape O
              have Ru3 := Lib.hid O
              clear O G
              refine hK.out _ _ (HS.out _ Bu3.out) (fun hHeld => ?_)
              clear hK K
              try simp only [Act.put]
              try simp only [List.setIfInBounds_toArray]
              refine wpAnyH_ready (rs := [9]) (by kernel_rfl) (by simp) (AllReadyH.cons rfl (fun K hK => ?_) AllReadyH.nil)
              refine stepApp rfl (.tmp 27) (.tmp 29) 29 29 rfl W.heap.size 34 i0 (.agg #[.int .i64 0, .int .i64 0, .int .i64 0, .int .i64 0, .int .i64 0, .string ⟨#[]⟩]) 6 56 Try.underlying29 hi hz0 hz1 hz2 rfl (.slice au3 m cu3) _ _ rfl Ru3.out _ 1 (reqC ⟨cl, sq, kd, id, mt, dt⟩) rfl (srcR18 Xu3.out) ?c3 ?c4 ?c5 ?_
              case c3 => unfold maxLen; omega
              case c4 => omega
              case c5 => exact Bu3.out.size
              intro vu4 u4 O G
              have Bu4 : Hid (Below W.heap.size W u4) := Bu3.out.grown G Bu3.out.size (fun y hy => (Ru3.out.lt y hy).1)
              obtain ⟨au4, cu4, rfl⟩ := ownsRow_succ O
              have Ru4 := Lib.hid O
              clear O G
              refine hK.out _ _ (HS.out _ Bu4.out) (fun hHeld => ?_)
              clear hK K
              try simp only [Act.put]
              try simp only [List.setIfInBounds_toArray]
              first
                | (refine held_take 10 31 (v := ?_) rfl rfl (by kernel_rfl) (by kernel_rfl) (by kernel_rfl) (fun _ _ _ h => h) (by assumption) (by rfl) ?_ ?_; rotate_left; (focus (intro w hSw; (try dsimp only at hSw); go_simp <;> with_reducible rfl)))
                | refine held_pass 10 31 rfl rfl (by kernel_rfl) (by kernel_rfl) (by kernel_rfl) (fun _ _ _ h => h) (by assumption) (by rfl) ?_
              try simp only [Act.put]
              try simp only [List.setIfInBounds_toArray]
              first
                | (refine held_take 11 32 (v := ?_) rfl rfl (by kernel_rfl) (by kernel_rfl) (by kernel_rfl) (fun _ _ _ h => h) (by assumption) (by rfl) ?_ ?_; rotate_left; (focus (intro w hSw; (try dsimp only at hSw); go_simp <;> with_reducible rfl)))
                | refine held_pass 11 32 rfl rfl (by kernel_rfl) (by kernel_rfl) (by kernel_rfl) (fun _ _ _ h => h) (by assumption) (by rfl) ?_
              try simp only [Act.put]
              try simp only [List.setIfInBounds_toArray]
              have hcell := HLD.out _ Bu4.out
              have hfz := HFZ.out _ Bu4.out
              have hbk := HBK.out _ Bu4.out
              have hrw := R3.out.keep Bu4.out R3.out.lt
              refine wpAnyH_ready (rs := [12]) (by kernel_rfl) (by simp) (AllReadyH.cons rfl (fun K hK => ?_) AllReadyH.nil)
              try simp only [Go.wp_at_succ, Go.wp_at_zero]
              go_simp
              have K1 := Lib.hid (ql_set hbk (.slice (some ⟨au4, 0, none⟩) (m + 1) cu4))
              have K2 := Lib.hid (own_atJ Ru4.out hbk (by decide) (Only.set b 1 u4 (.slice (some ⟨au4, 0, none⟩) (m + 1) cu4)))
              have K3 := Lib.hid ((Only.of (S := fun k => k = b) Bu4.out).trans (Only.set b 1 u4 (.slice (some ⟨au4, 0, none⟩) (m + 1) cu4)))
              have K4 : Hid ((fun u => u.cell? ⟨B, 0, none⟩ = some (.int .i64 cl) ∧ u.cell? ⟨B, 1, none⟩ = some (.int .i64 sq) ∧ u.cell? ⟨B, 2, none⟩ = some (.int .i64 kd) ∧ u.cell? ⟨B, 3, none⟩ = some (.int .i64 id) ∧ u.cell? ⟨B, 4, none⟩ = some (.int .i64 mt) ∧ u.cell? ⟨B, 5, none⟩ = some (.string dt)) (u4.setCell ⟨b, 1, none⟩ (.slice (some ⟨au4, 0, none⟩) (m + 1) cu4))) := (hrw.only (Only.set b 1 u4 (.slice (some ⟨au4, 0, none⟩) (m + 1) cu4)) HBNE.out).cells
              clear hcell hfz hbk hrw
              refine hK.out _ _ K4.out (fun hHeld => ?_)
              clear hK K
              try simp only [Act.put]
              refine wpAnyH_done (by kernel_rfl) ?_ _
              go_wp2
              go_meet
              exact ⟨rfl, _, _, K1.out, K2.out, K3.out⟩
          · try simp only [Go.wp_at_succ, Go.wp_at_zero]
            go_simp
            refine hK.out _ _ (HS.out _ (Bu1.out.alloc Bu1.out.size _)) (fun hHeld => ?_)
            clear hK K
            try simp only [Act.put, List.setIfInBounds_toArray, List.set_cons_zero, List.set_cons_succ]
            obtain ⟨u2, hN⟩ : ∃ u, u = u1.alloc (.cells #[.int .i64 cl, .int .i64 sq, .int .i64 kd, .int .i64 id, .int .i64 mt, .string dt] 34) := ⟨_, rfl⟩
            rw [← hN] at hHeld ⊢
            have Bu2 : Hid (Below W.heap.size W u2) := by rw [hN]; exact Bu1.out.alloc Bu1.out.size _
            have Eu2 : Hid (u2.heap[u0.heap.size]? = some (.cells #[] 34 (0, 0))) := by rw [hN]; exact alloc_keepJ _ Eu1.out
            have Xu2 : Hid (u2.heap[u1.heap.size]? = some (.cells #[.int .i64 cl, .int .i64 sq, .int .i64 kd, .int .i64 id, .int .i64 mt, .string dt] 34 (0, 0))) := by rw [hN]; exact heap_alloc_new u1 _
            clear hN
            refine wpAnyH_ready (rs := [5]) (by kernel_rfl) (by simp) (AllReadyH.cons rfl (fun K hK => ?_) AllReadyH.nil)
            try simp only [Go.wp_at_succ, Go.wp_at_zero]
            have hl := HLD.out _ Bu2.out
            go_simp
            refine hK.out _ _ (HS.out _ Bu2.out) (fun hHeld => ?_)
            clear hK K hl
            try simp only [Act.put, List.setIfInBounds_toArray, List.set_cons_zero, List.set_cons_succ]
            refine wpAnyH_ready (rs := [6]) (by kernel_rfl) (by simp) (AllReadyH.cons rfl (fun K hK => ?_) AllReadyH.nil)
            have HRu : Hid (u2.ownsRow W.heap.size 34 6 (.slice (some ⟨u0.heap.size, 0, none⟩) 0 0) 0 []) := ⟨rfl, .inr ⟨u0.heap.size, 0, #[], rfl, Bu0.out.size, Eu2.out, Nat.le_refl _, Nat.zero_le _, rfl, rfl⟩⟩
            refine stepApp rfl (.tmp 22) (.tmp 26) 29 29 rfl W.heap.size 34 i0 (.agg #[.int .i64 0, .int .i64 0, .int .i64 0, .int .i64 0, .int .i64 0, .string ⟨#[]⟩]) 6 56 Try.underlying29 hi hz0 hz1 hz2 rfl (.slice (some ⟨u0.heap.size, 0, none⟩) 0 0) _ _ rfl HRu.out _ m (reqCs L) rfl (HSA.out _ Bu2.out) ?c3 ?c4 ?c5 ?_
            case c3 => unfold maxLen; omega
            case c4 => omega
            case c5 => exact Bu2.out.size
            intro vu3 u3 O G
            have Bu3 : Hid (Below W.heap.size W u3) := Bu2.out.grown G Bu2.out.size (fun y hy => (HRu.out.lt y hy).1)
            rw [Nat.zero_add, List.nil_append] at O
            have Xu3 : Hid (u3.heap[u1.heap.size]? = some (.cells #[.int .i64 cl, .int .i64 sq, .int .i64 kd, .int .i64 id, .int .i64 mt, .string dt] 34 (0, 0))) := (G.block _ (Array.getElem?_eq_some_iff.1 Xu2.out).1 (fun e => by have h := Xu2.out.symm.trans (show u2.heap[u1.heap.size]? = some (.cells #[] 34 (0, 0)) from by rw [show u1.heap.size = u0.heap.size by simpa [Value.ownBlock] using e]; exact Eu2.out); simp at h)).trans Xu2.out
            obtain ⟨au3, cu3, rfl⟩ := own_shape O
            have Ru3 := Lib.hid O
            clear O G
            refine hK.out _ _ (HS.out _ Bu3.out) (fun hHeld => ?_)
            clear hK K
            try simp only [Act.put]
            try simp only [List.setIfInBounds_toArray]
            refine wpAnyH_ready (rs := [9]) (by kernel_rfl) (by simp) (AllReadyH.cons rfl (fun K hK => ?_) AllReadyH.nil)
            refine stepApp rfl (.tmp 27) (.tmp 29) 29 29 rfl W.heap.size 34 i0 (.agg #[.int .i64 0, .int .i64 0, .int .i64 0, .int .i64 0, .int .i64 0, .string ⟨#[]⟩]) 6 56 Try.underlying29 hi hz0 hz1 hz2 rfl (.slice au3 m cu3) _ _ rfl Ru3.out _ 1 (reqC ⟨cl, sq, kd, id, mt, dt⟩) rfl (srcR18 Xu3.out) ?c3 ?c4 ?c5 ?_
            case c3 => unfold maxLen; omega
            case c4 => omega
            case c5 => exact Bu3.out.size
            intro vu4 u4 O G
            have Bu4 : Hid (Below W.heap.size W u4) := Bu3.out.grown G Bu3.out.size (fun y hy => (Ru3.out.lt y hy).1)
            obtain ⟨au4, cu4, rfl⟩ := ownsRow_succ O
            have Ru4 := Lib.hid O
            clear O G
            refine hK.out _ _ (HS.out _ Bu4.out) (fun hHeld => ?_)
            clear hK K
            try simp only [Act.put]
            try simp only [List.setIfInBounds_toArray]
            first
              | (refine held_take 10 31 (v := ?_) rfl rfl (by kernel_rfl) (by kernel_rfl) (by kernel_rfl) (fun _ _ _ h => h) (by assumption) (by rfl) ?_ ?_; rotate_left; (focus (intro w hSw; (try dsimp only at hSw); go_simp <;> with_reducible rfl)))
              | refine held_pass 10 31 rfl rfl (by kernel_rfl) (by kernel_rfl) (by kernel_rfl) (fun _ _ _ h => h) (by assumption) (by rfl) ?_
            try simp only [Act.put]
            try simp only [List.setIfInBounds_toArray]
            first
              | (refine held_take 11 32 (v := ?_) rfl rfl (by kernel_rfl) (by kernel_rfl) (by kernel_rfl) (fun _ _ _ h => h) (by assumption) (by rfl) ?_ ?_; rotate_left; (focus (intro w hSw; (try dsimp only at hSw); go_simp <;> with_reducible rfl)))
              | refine held_pass 11 32 rfl rfl (by kernel_rfl) (by kernel_rfl) (by kernel_rfl) (fun _ _ _ h => h) (by assumption) (by rfl) ?_
            try simp only [Act.put]
            try simp only [List.setIfInBounds_toArray]
            have hcell := HLD.out _ Bu4.out
            have hfz := HFZ.out _ Bu4.out
            have hbk := HBK.out _ Bu4.out
            have hrw := R3.out.keep Bu4.out R3.out.lt
            refine wpAnyH_ready (rs := [12]) (by kernel_rfl) (by simp) (AllReadyH.cons rfl (fun K hK => ?_) AllReadyH.nil)
            try simp only [Go.wp_at_succ, Go.wp_at_zero]
            go_simp
            have K1 := Lib.hid (ql_set hbk (.slice (some ⟨au4, 0, none⟩) (m + 1) cu4))
            have K2 := Lib.hid (own_atJ Ru4.out hbk (by decide) (Only.set b 1 u4 (.slice (some ⟨au4, 0, none⟩) (m + 1) cu4)))
            have K3 := Lib.hid ((Only.of (S := fun k => k = b) Bu4.out).trans (Only.set b 1 u4 (.slice (some ⟨au4, 0, none⟩) (m + 1) cu4)))
            have K4 : Hid ((fun u => u.cell? ⟨B, 0, none⟩ = some (.int .i64 cl) ∧ u.cell? ⟨B, 1, none⟩ = some (.int .i64 sq) ∧ u.cell? ⟨B, 2, none⟩ = some (.int .i64 kd) ∧ u.cell? ⟨B, 3, none⟩ = some (.int .i64 id) ∧ u.cell? ⟨B, 4, none⟩ = some (.int .i64 mt) ∧ u.cell? ⟨B, 5, none⟩ = some (.string dt)) (u4.setCell ⟨b, 1, none⟩ (.slice (some ⟨au4, 0, none⟩) (m + 1) cu4))) := (hrw.only (Only.set b 1 u4 (.slice (some ⟨au4, 0, none⟩) (m + 1) cu4)) HBNE.out).cells
            clear hcell hfz hbk hrw
            refine hK.out _ _ K4.out (fun hHeld => ?_)
            clear hK K
            try simp only [Act.put]
            refine wpAnyH_done (by kernel_rfl) ?_ _
            go_wp2
            go_meet
            exact ⟨rfl, _, _, K1.out, K2.out, K3.out⟩
        · try simp only [Go.wp_at_succ, Go.wp_at_zero]
          have hl := HLD.out _ Bu0.out
          go_simp
          refine hK.out _ _ (HS.out _ Bu0.out) (fun hHeld => ?_)
          clear hK K hl
          try simp only [Act.put, List.setIfInBounds_toArray, List.set_cons_zero, List.set_cons_succ]
          refine wpAnyH_ready (rs := [1, 8]) (by kernel_rfl) (by simp) (AllReadyH.cons rfl (fun K hK => ?_) (AllReadyH.cons rfl (fun K hK => ?_) AllReadyH.nil))
          · try simp only [Go.wp_at_succ, Go.wp_at_zero]
            go_simp
            refine hK.out _ _ (HS.out _ (Bu0.out.alloc Bu0.out.size _)) (fun hHeld => ?_)
            clear hK K
            try simp only [Act.put, List.setIfInBounds_toArray, List.set_cons_zero, List.set_cons_succ]
            obtain ⟨u1, hN⟩ : ∃ u, u = u0.alloc (.cells #[] 34) := ⟨_, rfl⟩
            rw [← hN] at hHeld ⊢
            have Bu1 : Hid (Below W.heap.size W u1) := by rw [hN]; exact Bu0.out.alloc Bu0.out.size _
            have Eu1 : Hid (u1.heap[u0.heap.size]? = some (.cells #[] 34 (0, 0))) := by rw [hN]; exact heap_alloc_new u0 _
            clear hN
            refine wpAnyH_ready (rs := [6, 8]) (by kernel_rfl) (by simp) (AllReadyH.cons rfl (fun K hK => ?_) (AllReadyH.cons rfl (fun K hK => ?_) AllReadyH.nil))
            · have HRu : Hid (u1.ownsRow W.heap.size 34 6 (.slice (some ⟨u0.heap.size, 0, none⟩) 0 0) 0 []) := ⟨rfl, .inr ⟨u0.heap.size, 0, #[], rfl, Bu0.out.size, Eu1.out, Nat.le_refl _, Nat.zero_le _, rfl, rfl⟩⟩
              refine stepApp rfl (.tmp 22) (.tmp 26) 29 29 rfl W.heap.size 34 i0 (.agg #[.int .i64 0, .int .i64 0, .int .i64 0, .int .i64 0, .int .i64 0, .string ⟨#[]⟩]) 6 56 Try.underlying29 hi hz0 hz1 hz2 rfl (.slice (some ⟨u0.heap.size, 0, none⟩) 0 0) _ _ rfl HRu.out _ m (reqCs L) rfl (HSA.out _ Bu1.out) ?c3 ?c4 ?c5 ?_
              case c3 => unfold maxLen; omega
              case c4 => omega
              case c5 => exact Bu1.out.size
              intro vu2 u2 O G
              have Bu2 : Hid (Below W.heap.size W u2) := Bu1.out.grown G Bu1.out.size (fun y hy => (HRu.out.lt y hy).1)
              rw [Nat.zero_add, List.nil_append] at O
              obtain ⟨au2, cu2, rfl⟩ := own_shape O
              have Ru2 := Lib.hid O
              clear O G
              refine hK.out _ _ (HS.out _ Bu2.out) (fun hHeld => ?_)
              clear hK K
              try simp only [Act.put]
              try simp only [List.setIfInBounds_toArray]
              refine wpAnyH_ready (rs := [8]) (by kernel_rfl) (by simp) (AllReadyH.cons rfl (fun K hK => ?_) AllReadyH.nil)
              try simp only [Go.wp_at_succ, Go.wp_at_zero]
              go_simp
              refine hK.out _ _ (HS.out _ (Bu2.out.alloc Bu2.out.size _)) (fun hHeld => ?_)
              clear hK K
              try simp only [Act.put, List.setIfInBounds_toArray, List.set_cons_zero, List.set_cons_succ]
              obtain ⟨u3, hN⟩ : ∃ u, u = u2.alloc (.cells #[.int .i64 cl, .int .i64 sq, .int .i64 kd, .int .i64 id, .int .i64 mt, .string dt] 34) := ⟨_, rfl⟩
              rw [← hN] at hHeld ⊢
              have Bu3 : Hid (Below W.heap.size W u3) := by rw [hN]; exact Bu2.out.alloc Bu2.out.size _
              have Xu3 : Hid (u3.heap[u2.heap.size]? = some (.cells #[.int .i64 cl, .int .i64 sq, .int .i64 kd, .int .i64 id, .int .i64 mt, .string dt] 34 (0, 0))) := by rw [hN]; exact heap_alloc_new u2 _
              have Ru3 := Lib.hid (Ru2.out.alloc (.cells #[.int .i64 cl, .int .i64 sq, .int .i64 kd, .int .i64 id, .int .i64 mt, .string dt] 34))
              rw [← hN] at Ru3
              clear hN
              refine wpAnyH_ready (rs := [9]) (by kernel_rfl) (by simp) (AllReadyH.cons rfl (fun K hK => ?_) AllReadyH.nil)
              refine stepApp rfl (.tmp 27) (.tmp 29) 29 29 rfl W.heap.size 34 i0 (.agg #[.int .i64 0, .int .i64 0, .int .i64 0, .int .i64 0, .int .i64 0, .string ⟨#[]⟩]) 6 56 Try.underlying29 hi hz0 hz1 hz2 rfl (.slice au2 m cu2) _ _ rfl Ru3.out _ 1 (reqC ⟨cl, sq, kd, id, mt, dt⟩) rfl (srcR18 Xu3.out) ?c3 ?c4 ?c5 ?_
              case c3 => unfold maxLen; omega
              case c4 => omega
              case c5 => exact Bu3.out.size
              intro vu4 u4 O G
              have Bu4 : Hid (Below W.heap.size W u4) := Bu3.out.grown G Bu3.out.size (fun y hy => (Ru3.out.lt y hy).1)
              obtain ⟨au4, cu4, rfl⟩ := ownsRow_succ O
              have Ru4 := Lib.hid O
              clear O G
              refine hK.out _ _ (HS.out _ Bu4.out) (fun hHeld => ?_)
              clear hK K
              try simp only [Act.put]
              try simp only [List.setIfInBounds_toArray]
              first
                | (refine held_take 10 31 (v := ?_) rfl rfl (by kernel_rfl) (by kernel_rfl) (by kernel_rfl) (fun _ _ _ h => h) (by assumption) (by rfl) ?_ ?_; rotate_left; (focus (intro w hSw; (try dsimp only at hSw); go_simp <;> with_reducible rfl)))
                | refine held_pass 10 31 rfl rfl (by kernel_rfl) (by kernel_rfl) (by kernel_rfl) (fun _ _ _ h => h) (by assumption) (by rfl) ?_
              try simp only [Act.put]
              try simp only [List.setIfInBounds_toArray]
              first
                | (refine held_take 11 32 (v := ?_) rfl rfl (by kernel_rfl) (by kernel_rfl) (by kernel_rfl) (fun _ _ _ h => h) (by assumption) (by rfl) ?_ ?_; rotate_left; (focus (intro w hSw; (try dsimp only at hSw); go_simp <;> with_reducible rfl)))
                | refine held_pass 11 32 rfl rfl (by kernel_rfl) (by kernel_rfl) (by kernel_rfl) (fun _ _ _ h => h) (by assumption) (by rfl) ?_
              try simp only [Act.put]
              try simp only [List.setIfInBounds_toArray]
              have hcell := HLD.out _ Bu4.out
              have hfz := HFZ.out _ Bu4.out
              have hbk := HBK.out _ Bu4.out
              have hrw := R3.out.keep Bu4.out R3.out.lt
              refine wpAnyH_ready (rs := [12]) (by kernel_rfl) (by simp) (AllReadyH.cons rfl (fun K hK => ?_) AllReadyH.nil)
              try simp only [Go.wp_at_succ, Go.wp_at_zero]
              go_simp
              have K1 := Lib.hid (ql_set hbk (.slice (some ⟨au4, 0, none⟩) (m + 1) cu4))
              have K2 := Lib.hid (own_atJ Ru4.out hbk (by decide) (Only.set b 1 u4 (.slice (some ⟨au4, 0, none⟩) (m + 1) cu4)))
              have K3 := Lib.hid ((Only.of (S := fun k => k = b) Bu4.out).trans (Only.set b 1 u4 (.slice (some ⟨au4, 0, none⟩) (m + 1) cu4)))
              have K4 : Hid ((fun u => u.cell? ⟨B, 0, none⟩ = some (.int .i64 cl) ∧ u.cell? ⟨B, 1, none⟩ = some (.int .i64 sq) ∧ u.cell? ⟨B, 2, none⟩ = some (.int .i64 kd) ∧ u.cell? ⟨B, 3, none⟩ = some (.int .i64 id) ∧ u.cell? ⟨B, 4, none⟩ = some (.int .i64 mt) ∧ u.cell? ⟨B, 5, none⟩ = some (.string dt)) (u4.setCell ⟨b, 1, none⟩ (.slice (some ⟨au4, 0, none⟩) (m + 1) cu4))) := (hrw.only (Only.set b 1 u4 (.slice (some ⟨au4, 0, none⟩) (m + 1) cu4)) HBNE.out).cells
              clear hcell hfz hbk hrw
              refine hK.out _ _ K4.out (fun hHeld => ?_)
              clear hK K
              try simp only [Act.put]
              refine wpAnyH_done (by kernel_rfl) ?_ _
              go_wp2
              go_meet
              exact ⟨rfl, _, _, K1.out, K2.out, K3.out⟩
            · try simp only [Go.wp_at_succ, Go.wp_at_zero]
              go_simp
              refine hK.out _ _ (HS.out _ (Bu1.out.alloc Bu1.out.size _)) (fun hHeld => ?_)
              clear hK K
              try simp only [Act.put, List.setIfInBounds_toArray, List.set_cons_zero, List.set_cons_succ]
              obtain ⟨u2, hN⟩ : ∃ u, u = u1.alloc (.cells #[.int .i64 cl, .int .i64 sq, .int .i64 kd, .int .i64 id, .int .i64 mt, .string dt] 34) := ⟨_, rfl⟩
              rw [← hN] at hHeld ⊢
              have Bu2 : Hid (Below W.heap.size W u2) := by rw [hN]; exact Bu1.out.alloc Bu1.out.size _
              have Eu2 : Hid (u2.heap[u0.heap.size]? = some (.cells #[] 34 (0, 0))) := by rw [hN]; exact alloc_keepJ _ Eu1.out
              have Xu2 : Hid (u2.heap[u1.heap.size]? = some (.cells #[.int .i64 cl, .int .i64 sq, .int .i64 kd, .int .i64 id, .int .i64 mt, .string dt] 34 (0, 0))) := by rw [hN]; exact heap_alloc_new u1 _
              clear hN
              refine wpAnyH_ready (rs := [6]) (by kernel_rfl) (by simp) (AllReadyH.cons rfl (fun K hK => ?_) AllReadyH.nil)
              have HRu : Hid (u2.ownsRow W.heap.size 34 6 (.slice (some ⟨u0.heap.size, 0, none⟩) 0 0) 0 []) := ⟨rfl, .inr ⟨u0.heap.size, 0, #[], rfl, Bu0.out.size, Eu2.out, Nat.le_refl _, Nat.zero_le _, rfl, rfl⟩⟩
              refine stepApp rfl (.tmp 22) (.tmp 26) 29 29 rfl W.heap.size 34 i0 (.agg #[.int .i64 0, .int .i64 0, .int .i64 0, .int .i64 0, .int .i64 0, .string ⟨#[]⟩]) 6 56 Try.underlying29 hi hz0 hz1 hz2 rfl (.slice (some ⟨u0.heap.size, 0, none⟩) 0 0) _ _ rfl HRu.out _ m (reqCs L) rfl (HSA.out _ Bu2.out) ?c3 ?c4 ?c5 ?_
              case c3 => unfold maxLen; omega
              case c4 => omega
              case c5 => exact Bu2.out.size
              intro vu3 u3 O G
              have Bu3 : Hid (Below W.heap.size W u3) := Bu2.out.grown G Bu2.out.size (fun y hy => (HRu.out.lt y hy).1)
              rw [Nat.zero_add, List.nil_append] at O
              have Xu3 : Hid (u3.heap[u1.heap.size]? = some (.cells #[.int .i64 cl, .int .i64 sq, .int .i64 kd, .int .i64 id, .int .i64 mt, .string dt] 34 (0, 0))) := (G.block _ (Array.getElem?_eq_some_iff.1 Xu2.out).1 (fun e => by have h := Xu2.out.symm.trans (show u2.heap[u1.heap.size]? = some (.cells #[] 34 (0, 0)) from by rw [show u1.heap.size = u0.heap.size by simpa [Value.ownBlock] using e]; exact Eu2.out); simp at h)).trans Xu2.out
              obtain ⟨au3, cu3, rfl⟩ := own_shape O
              have Ru3 := Lib.hid O
              clear O G
              refine hK.out _ _ (HS.out _ Bu3.out) (fun hHeld => ?_)
              clear hK K
              try simp only [Act.put]
              try simp only [List.setIfInBounds_toArray]
              refine wpAnyH_ready (rs := [9]) (by kernel_rfl) (by simp) (AllReadyH.cons rfl (fun K hK => ?_) AllReadyH.nil)
              refine stepApp rfl (.tmp 27) (.tmp 29) 29 29 rfl W.heap.size 34 i0 (.agg #[.int .i64 0, .int .i64 0, .int .i64 0, .int .i64 0, .int .i64 0, .string ⟨#[]⟩]) 6 56 Try.underlying29 hi hz0 hz1 hz2 rfl (.slice au3 m cu3) _ _ rfl Ru3.out _ 1 (reqC ⟨cl, sq, kd, id, mt, dt⟩) rfl (srcR18 Xu3.out) ?c3 ?c4 ?c5 ?_
              case c3 => unfold maxLen; omega
              case c4 => omega
              case c5 => exact Bu3.out.size
              intro vu4 u4 O G
              have Bu4 : Hid (Below W.heap.size W u4) := Bu3.out.grown G Bu3.out.size (fun y hy => (Ru3.out.lt y hy).1)
              obtain ⟨au4, cu4, rfl⟩ := ownsRow_succ O
              have Ru4 := Lib.hid O
              clear O G
              refine hK.out _ _ (HS.out _ Bu4.out) (fun hHeld => ?_)
              clear hK K
              try simp only [Act.put]
              try simp only [List.setIfInBounds_toArray]
              first
                | (refine held_take 10 31 (v := ?_) rfl rfl (by kernel_rfl) (by kernel_rfl) (by kernel_rfl) (fun _ _ _ h => h) (by assumption) (by rfl) ?_ ?_; rotate_left; (focus (intro w hSw; (try dsimp only at hSw); go_simp <;> with_reducible rfl)))
                | refine held_pass 10 31 rfl rfl (by kernel_rfl) (by kernel_rfl) (by kernel_rfl) (fun _ _ _ h => h) (by assumption) (by rfl) ?_
              try simp only [Act.put]
              try simp only [List.setIfInBounds_toArray]
              first
                | (refine held_take 11 32 (v := ?_) rfl rfl (by kernel_rfl) (by kernel_rfl) (by kernel_rfl) (fun _ _ _ h => h) (by assumption) (by rfl) ?_ ?_; rotate_left; (focus (intro w hSw; (try dsimp only at hSw); go_simp <;> with_reducible rfl)))
                | refine held_pass 11 32 rfl rfl (by kernel_rfl) (by kernel_rfl) (by kernel_rfl) (fun _ _ _ h => h) (by assumption) (by rfl) ?_
              try simp only [Act.put]
              try simp only [List.setIfInBounds_toArray]
              have hcell := HLD.out _ Bu4.out
              have hfz := HFZ.out _ Bu4.out
              have hbk := HBK.out _ Bu4.out
              have hrw := R3.out.keep Bu4.out R3.out.lt
              refine wpAnyH_ready (rs := [12]) (by kernel_rfl) (by simp) (AllReadyH.cons rfl (fun K hK => ?_) AllReadyH.nil)
              try simp only [Go.wp_at_succ, Go.wp_at_zero]
              go_simp
              have K1 := Lib.hid (ql_set hbk (.slice (some ⟨au4, 0, none⟩) (m + 1) cu4))
              have K2 := Lib.hid (own_atJ Ru4.out hbk (by decide) (Only.set b 1 u4 (.slice (some ⟨au4, 0, none⟩) (m + 1) cu4)))
              have K3 := Lib.hid ((Only.of (S := fun k => k = b) Bu4.out).trans (Only.set b 1 u4 (.slice (some ⟨au4, 0, none⟩) (m + 1) cu4)))
              have K4 : Hid ((fun u => u.cell? ⟨B, 0, none⟩ = some (.int .i64 cl) ∧ u.cell? ⟨B, 1, none⟩ = some (.int .i64 sq) ∧ u.cell? ⟨B, 2, none⟩ = some (.int .i64 kd) ∧ u.cell? ⟨B, 3, none⟩ = some (.int .i64 id) ∧ u.cell? ⟨B, 4, none⟩ = some (.int .i64 mt) ∧ u.cell? ⟨B, 5, none⟩ = some (.string dt)) (u4.setCell ⟨b, 1, none⟩ (.slice (some ⟨au4, 0, none⟩) (m + 1) cu4))) := (hrw.only (Only.set b 1 u4 (.slice (some ⟨au4, 0, none⟩) (m + 1) cu4)) HBNE.out).cells
              clear hcell hfz hbk hrw
              refine hK.out _ _ K4.out (fun hHeld => ?_)
              clear hK K
              try simp only [Act.put]
              refine wpAnyH_done (by kernel_rfl) ?_ _
              go_wp2
              go_meet
              exact ⟨rfl, _, _, K1.out, K2.out, K3.out⟩
          · try simp only [Go.wp_at_succ, Go.wp_at_zero]
            go_simp
            refine hK.out _ _ (HS.out _ (Bu0.out.alloc Bu0.out.size _)) (fun hHeld => ?_)
            clear hK K
            try simp only [Act.put, List.setIfInBounds_toArray, List.set_cons_zero, List.set_cons_succ]
            obtain ⟨u1, hN⟩ : ∃ u, u = u0.alloc (.cells #[.int .i64 cl, .int .i64 sq, .int .i64 kd, .int .i64 id, .int .i64 mt, .string dt] 34) := ⟨_, rfl⟩
            rw [← hN] at hHeld ⊢
            have Bu1 : Hid (Below W.heap.size W u1) := by rw [hN]; exact Bu0.out.alloc Bu0.out.size _
            have Xu1 : Hid (u1.heap[u0.heap.size]? = some (.cells #[.int .i64 cl, .int .i64 sq, .int .i64 kd, .int .i64 id, .int .i64 mt, .string dt] 34 (0, 0))) := by rw [hN]; exact heap_alloc_new u0 _
            clear hN
            refine wpAnyH_ready (rs := [1]) (by kernel_rfl) (by simp) (AllReadyH.cons rfl (fun K hK => ?_) AllReadyH.nil)
            try simp only [Go.wp_at_succ, Go.wp_at_zero]
            go_simp
            refine hK.out _ _ (HS.out _ (Bu1.out.alloc Bu1.out.size _)) (fun hHeld => ?_)
            clear hK K
            try simp only [Act.put, List.setIfInBounds_toArray, List.set_cons_zero, List.set_cons_succ]
            obtain ⟨u2, hN⟩ : ∃ u, u = u1.alloc (.cells #[] 34) := ⟨_, rfl⟩
            rw [← hN] at hHeld ⊢
            have Bu2 : Hid (Below W.heap.size W u2) := by rw [hN]; exact Bu1.out.alloc Bu1.out.size _
            have Xu2 : Hid (u2.heap[u0.heap.size]? = some (.cells #[.int .i64 cl, .int .i64 sq, .int .i64 kd, .int .i64 id, .int .i64 mt, .string dt] 34 (0, 0))) := by rw [hN]; exact alloc_keepJ _ Xu1.out
            have Eu2 : Hid (u2.heap[u1.heap.size]? = some (.cells #[] 34 (0, 0))) := by rw [hN]; exact heap_alloc_new u1 _
            clear hN
            refine wpAnyH_ready (rs := [6]) (by kernel_rfl) (by simp) (AllReadyH.cons rfl (fun K hK => ?_) AllReadyH.nil)
            have HRu : Hid (u2.ownsRow W.heap.size 34 6 (.slice (some ⟨u1.heap.size, 0, none⟩) 0 0) 0 []) := ⟨rfl, .inr ⟨u1.heap.size, 0, #[], rfl, Bu1.out.size, Eu2.out, Nat.le_refl _, Nat.zero_le _, rfl, rfl⟩⟩
            refine stepApp rfl (.tmp 22) (.tmp 26) 29 29 rfl W.heap.size 34 i0 (.agg #[.int .i64 0, .int .i64 0, .int .i64 0, .int .i64 0, .int .i64 0, .string ⟨#[]⟩]) 6 56 Try.underlying29 hi hz0 hz1 hz2 rfl (.slice (some ⟨u1.heap.size, 0, none⟩) 0 0) _ _ rfl HRu.out _ m (reqCs L) rfl (HSA.out _ Bu2.out) ?c3 ?c4 ?c5 ?_
            case c3 => unfold maxLen; omega
            case c4 => omega
            case c5 => exact Bu2.out.size
            intro vu3 u3 O G
            have Bu3 : Hid (Below W.heap.size W u3) := Bu2.out.grown G Bu2.out.size (fun y hy => (HRu.out.lt y hy).1)
            rw [Nat.zero_add, List.nil_append] at O
            have Xu3 : Hid (u3.heap[u0.heap.size]? = some (.cells #[.int .i64 cl, .int .i64 sq, .int .i64 kd, .int .i64 id, .int .i64 mt, .string dt] 34 (0, 0))) := (G.block _ (Array.getElem?_eq_some_iff.1 Xu2.out).1 (fun e => by have h := Xu2.out.symm.trans (show u2.heap[u0.heap.size]? = some (.cells #[] 34 (0, 0)) from by rw [show u0.heap.size = u1.heap.size by simpa [Value.ownBlock] using e]; exact Eu2.out); simp at h)).trans Xu2.out
            obtain ⟨au3, cu3, rfl⟩ := own_shape O
            have Ru3 := Lib.hid O
            clear O G
            refine hK.out _ _ (HS.out _ Bu3.out) (fun hHeld => ?_)
            clear hK K
            try simp only [Act.put]
            try simp only [List.setIfInBounds_toArray]
            refine wpAnyH_ready (rs := [9]) (by kernel_rfl) (by simp) (AllReadyH.cons rfl (fun K hK => ?_) AllReadyH.nil)
            refine stepApp rfl (.tmp 27) (.tmp 29) 29 29 rfl W.heap.size 34 i0 (.agg #[.int .i64 0, .int .i64 0, .int .i64 0, .int .i64 0, .int .i64 0, .string ⟨#[]⟩]) 6 56 Try.underlying29 hi hz0 hz1 hz2 rfl (.slice au3 m cu3) _ _ rfl Ru3.out _ 1 (reqC ⟨cl, sq, kd, id, mt, dt⟩) rfl (srcR18 Xu3.out) ?c3 ?c4 ?c5 ?_
            case c3 => unfold maxLen; omega
            case c4 => omega
            case c5 => exact Bu3.out.size
            intro vu4 u4 O G
            have Bu4 : Hid (Below W.heap.size W u4) := Bu3.out.grown G Bu3.out.size (fun y hy => (Ru3.out.lt y hy).1)
            obtain ⟨au4, cu4, rfl⟩ := ownsRow_succ O
            have Ru4 := Lib.hid O
            clear O G
            refine hK.out _ _ (HS.out _ Bu4.out) (fun hHeld => ?_)
            clear hK K
            try simp only [Act.put]
            try simp only [List.setIfInBounds_toArray]
            first
              | (refine held_take 10 31 (v := ?_) rfl rfl (by kernel_rfl) (by kernel_rfl) (by kernel_rfl) (fun _ _ _ h => h) (by assumption) (by rfl) ?_ ?_; rotate_left; (focus (intro w hSw; (try dsimp only at hSw); go_simp <;> with_reducible rfl)))
              | refine held_pass 10 31 rfl rfl (by kernel_rfl) (by kernel_rfl) (by kernel_rfl) (fun _ _ _ h => h) (by assumption) (by rfl) ?_
            try simp only [Act.put]
            try simp only [List.setIfInBounds_toArray]
            first
              | (refine held_take 11 32 (v := ?_) rfl rfl (by kernel_rfl) (by kernel_rfl) (by kernel_rfl) (fun _ _ _ h => h) (by assumption) (by rfl) ?_ ?_; rotate_left; (focus (intro w hSw; (try dsimp only at hSw); go_simp <;> with_reducible rfl)))
              | refine held_pass 11 32 rfl rfl (by kernel_rfl) (by kernel_rfl) (by kernel_rfl) (fun _ _ _ h => h) (by assumption) (by rfl) ?_
            try simp only [Act.put]
            try simp only [List.setIfInBounds_toArray]
            have hcell := HLD.out _ Bu4.out
            have hfz := HFZ.out _ Bu4.out
            have hbk := HBK.out _ Bu4.out
            have hrw := R3.out.keep Bu4.out R3.out.lt
            refine wpAnyH_ready (rs := [12]) (by kernel_rfl) (by simp) (AllReadyH.cons rfl (fun K hK => ?_) AllReadyH.nil)
            try simp only [Go.wp_at_succ, Go.wp_at_zero]
            go_simp
            have K1 := Lib.hid (ql_set hbk (.slice (some ⟨au4, 0, none⟩) (m + 1) cu4))
            have K2 := Lib.hid (own_atJ Ru4.out hbk (by decide) (Only.set b 1 u4 (.slice (some ⟨au4, 0, none⟩) (m + 1) cu4)))
            have K3 := Lib.hid ((Only.of (S := fun k => k = b) Bu4.out).trans (Only.set b 1 u4 (.slice (some ⟨au4, 0, none⟩) (m + 1) cu4)))
            have K4 : Hid ((fun u => u.cell? ⟨B, 0, none⟩ = some (.int .i64 cl) ∧ u.cell? ⟨B, 1, none⟩ = some (.int .i64 sq) ∧ u.cell? ⟨B, 2, none⟩ = some (.int .i64 kd) ∧ u.cell? ⟨B, 3, none⟩ = some (.int .i64 id) ∧ u.cell? ⟨B, 4, none⟩ = some (.int .i64 mt) ∧ u.cell? ⟨B, 5, none⟩ = some (.string dt)) (u4.setCell ⟨b, 1, none⟩ (.slice (some ⟨au4, 0, none⟩) (m + 1) cu4))) := (hrw.only (Only.set b 1 u4 (.slice (some ⟨au4, 0, none⟩) (m + 1) cu4)) HBNE.out).cells
            clear hcell hfz hbk hrw
            refine hK.out _ _ K4.out (fun hHeld => ?_)
            clear hK K
            try simp only [Act.put]
            refine wpAnyH_done (by kernel_rfl) ?_ _
            go_wp2
            go_meet
            exact ⟨rfl, _, _, K1.out, K2.out, K3.out⟩
        · try simp only [Go.wp_at_succ, Go.wp_at_zero]
          go_simp
          refine hK.out _ _ (HS.out _ (Bu0.out.alloc Bu0.out.size _)) (fun hHeld => ?_)
          clear hK K
          try simp only [Act.put, List.setIfInBounds_toArray, List.set_cons_zero, List.set_cons_succ]
          obtain ⟨u1, hN⟩ : ∃ u, u = u0.alloc (.cells #[.int .i64 cl, .int .i64 sq, .int .i64 kd, .int .i64 id, .int .i64 mt, .string dt] 34) := ⟨_, rfl⟩
          rw [← hN] at hHeld ⊢
          have Bu1 : Hid (Below W.heap.size W u1) := by rw [hN]; exact Bu0.out.alloc Bu0.out.size _
          have Xu1 : Hid (u1.heap[u0.heap.size]? = some (.cells #[.int .i64 cl, .int .i64 sq, .int .i64 kd, .int .i64 id, .int .i64 mt, .string dt] 34 (0, 0))) := by rw [hN]; exact heap_alloc_new u0 _
          clear hN
          refine wpAnyH_ready (rs := [1, 5]) (by kernel_rfl) (by simp) (AllReadyH.cons rfl (fun K hK => ?_) (AllReadyH.cons rfl (fun K hK => ?_) AllReadyH.nil))
          · try simp only [Go.wp_at_succ, Go.wp_at_zero]
            go_simp
            refine hK.out _ _ (HS.out _ (Bu1.out.alloc Bu1.out.size _)) (fun hHeld => ?_)
            clear hK K
            try simp only [Act.put, List.setIfInBounds_toArray, List.set_cons_zero, List.set_cons_succ]
            obtain ⟨u2, hN⟩ : ∃ u, u = u1.alloc (.cells #[] 34) := ⟨_, rfl⟩
            rw [← hN] at hHeld ⊢
            have Bu2 : Hid (Below W.heap.size W u2) := by rw [hN]; exact Bu1.out.alloc Bu1.out.size _
            have Xu2 : Hid (u2.heap[u0.heap.size]? = some (.cells #[.int .i64 cl, .int .i64 sq, .int .i64 kd, .int .i64 id, .int .i64 mt, .string dt] 34 (0, 0))) := by rw [hN]; exact alloc_keepJ _ Xu1.out
            have Eu2 : Hid (u2.heap[u1.heap.size]? = some (.cells #[] 34 (0, 0))) := by rw [hN]; exact heap_alloc_new u1 _
            clear hN
            refine wpAnyH_ready (rs := [5]) (by kernel_rfl) (by simp) (AllReadyH.cons rfl (fun K hK => ?_) AllReadyH.nil)
            try simp only [Go.wp_at_succ, Go.wp_at_zero]
            have hl := HLD.out _ Bu2.out
            go_simp
            refine hK.out _ _ (HS.out _ Bu2.out) (fun hHeld => ?_)
            clear hK K hl
            try simp only [Act.put, List.setIfInBounds_toArray, List.set_cons_zero, List.set_cons_succ]
            refine wpAnyH_ready (rs := [6]) (by kernel_rfl) (by simp) (AllReadyH.cons rfl (fun K hK => ?_) AllReadyH.nil)
            have HRu : Hid (u2.ownsRow W.heap.size 34 6 (.slice (some ⟨u1.heap.size, 0, none⟩) 0 0) 0 []) := ⟨rfl, .inr ⟨u1.heap.size, 0, #[], rfl, Bu1.out.size, Eu2.out, Nat.le_refl _, Nat.zero_le _, rfl, rfl⟩⟩
            refine stepApp rfl (.tmp 22) (.tmp 26) 29 29 rfl W.heap.size 34 i0 (.agg #[.int .i64 0, .int .i64 0, .int .i64 0, .int .i64 0, .int .i64 0, .string ⟨#[]⟩]) 6 56 Try.underlying29 hi hz0 hz1 hz2 rfl (.slice (some ⟨u1.heap.size, 0, none⟩) 0 0) _ _ rfl HRu.out _ m (reqCs L) rfl (HSA.out _ Bu2.out) ?c3 ?c4 ?c5 ?_
            case c3 => unfold maxLen; omega
            case c4 => omega
            case c5 => exact Bu2.out.size
            intro vu3 u3 O G
            have Bu3 : Hid (Below W.heap.size W u3) := Bu2.out.grown G Bu2.out.size (fun y hy => (HRu.out.lt y hy).1)
            rw [Nat.zero_add, List.nil_append] at O
            have Xu3 : Hid (u3.heap[u0.heap.size]? = some (.cells #[.int .i64 cl, .int .i64 sq, .int .i64 kd, .int .i64 id, .int .i64 mt, .string dt] 34 (0, 0))) := (G.block _ (Array.getElem?_eq_some_iff.1 Xu2.out).1 (fun e => by have h := Xu2.out.symm.trans (show u2.heap[u0.heap.size]? = some (.cells #[] 34 (0, 0)) from by rw [show u0.heap.size = u1.heap.size by simpa [Value.ownBlock] using e]; exact Eu2.out); simp at h)).trans Xu2.out
            obtain ⟨au3, cu3, rfl⟩ := own_shape O
            have Ru3 := Lib.hid O
            clear O G
            refine hK.out _ _ (HS.out _ Bu3.out) (fun hHeld => ?_)
            clear hK K
            try simp only [Act.put]
            try simp only [List.setIfInBounds_toArray]
            refine wpAnyH_ready (rs := [9]) (by kernel_rfl) (by simp) (AllReadyH.cons rfl (fun K hK => ?_) AllReadyH.nil)
            refine stepApp rfl (.tmp 27) (.tmp 29) 29 29 rfl W.heap.size 34 i0 (.agg #[.int .i64 0, .int .i64 0, .int .i64 0, .int .i64 0, .int .i64 0, .string ⟨#[]⟩]) 6 56 Try.underlying29 hi hz0 hz1 hz2 rfl (.slice au3 m cu3) _ _ rfl Ru3.out _ 1 (reqC ⟨cl, sq, kd, id, mt, dt⟩) rfl (srcR18 Xu3.out) ?c3 ?c4 ?c5 ?_
            case c3 => unfold maxLen; omega
            case c4 => omega
            case c5 => exact Bu3.out.size
            intro vu4 u4 O G
            have Bu4 : Hid (Below W.heap.size W u4) := Bu3.out.grown G Bu3.out.size (fun y hy => (Ru3.out.lt y hy).1)
            obtain ⟨au4, cu4, rfl⟩ := ownsRow_succ O
            have Ru4 := Lib.hid O
            clear O G
            refine hK.out _ _ (HS.out _ Bu4.out) (fun hHeld => ?_)
            clear hK K
            try simp only [Act.put]
            try simp only [List.setIfInBounds_toArray]
            first
              | (refine held_take 10 31 (v := ?_) rfl rfl (by kernel_rfl) (by kernel_rfl) (by kernel_rfl) (fun _ _ _ h => h) (by assumption) (by rfl) ?_ ?_; rotate_left; (focus (intro w hSw; (try dsimp only at hSw); go_simp <;> with_reducible rfl)))
              | refine held_pass 10 31 rfl rfl (by kernel_rfl) (by kernel_rfl) (by kernel_rfl) (fun _ _ _ h => h) (by assumption) (by rfl) ?_
            try simp only [Act.put]
            try simp only [List.setIfInBounds_toArray]
            first
              | (refine held_take 11 32 (v := ?_) rfl rfl (by kernel_rfl) (by kernel_rfl) (by kernel_rfl) (fun _ _ _ h => h) (by assumption) (by rfl) ?_ ?_; rotate_left; (focus (intro w hSw; (try dsimp only at hSw); go_simp <;> with_reducible rfl)))
              | refine held_pass 11 32 rfl rfl (by kernel_rfl) (by kernel_rfl) (by kernel_rfl) (fun _ _ _ h => h) (by assumption) (by rfl) ?_
            try simp only [Act.put]
            try simp only [List.setIfInBounds_toArray]
            have hcell := HLD.out _ Bu4.out
            have hfz := HFZ.out _ Bu4.out
            have hbk := HBK.out _ Bu4.out
            have hrw := R3.out.keep Bu4.out R3.out.lt
            refine wpAnyH_ready (rs := [12]) (by kernel_rfl) (by simp) (AllReadyH.cons rfl (fun K hK => ?_) AllReadyH.nil)
            try simp only [Go.wp_at_succ, Go.wp_at_zero]
            go_simp
            have K1 := Lib.hid (ql_set hbk (.slice (some ⟨au4, 0, none⟩) (m + 1) cu4))
            have K2 := Lib.hid (own_atJ Ru4.out hbk (by decide) (Only.set b 1 u4 (.slice (some ⟨au4, 0, none⟩) (m + 1) cu4)))
            have K3 := Lib.hid ((Only.of (S := fun k => k = b) Bu4.out).trans (Only.set b 1 u4 (.slice (some ⟨au4, 0, none⟩) (m + 1) cu4)))
            have K4 : Hid ((fun u => u.cell? ⟨B, 0, none⟩ = some (.int .i64 cl) ∧ u.cell? ⟨B, 1, none⟩ = some (.int .i64 sq) ∧ u.cell? ⟨B, 2, none⟩ = some (.int .i64 kd) ∧ u.cell? ⟨B, 3, none⟩ = some (.int .i64 id) ∧ u.cell? ⟨B, 4, none⟩ = some (.int .i64 mt) ∧ u.cell? ⟨B, 5, none⟩ = some (.string dt)) (u4.setCell ⟨b, 1, none⟩ (.slice (some ⟨au4, 0, none⟩) (m + 1) cu4))) := (hrw.only (Only.set b 1 u4 (.slice (some ⟨au4, 0, none⟩) (m + 1) cu4)) HBNE.out).cells
            clear hcell hfz hbk hrw
            refine hK.out _ _ K4.out (fun hHeld => ?_)
            clear hK K
            try simp only [Act.put]
            refine wpAnyH_done (by kernel_rfl) ?_ _
            go_wp2
            go_meet
            exact ⟨rfl, _, _, K1.out, K2.out, K3.out⟩
          · try simp only [Go.wp_at_succ, Go.wp_at_zero]
            have hl := HLD.out _ Bu1.out
            go_simp
            refine hK.out _ _ (HS.out _ Bu1.out) (fun hHeld => ?_)
            clear hK K hl
            try simp only [Act.put, List.setIfInBounds_toArray, List.set_cons_zero, List.set_cons_succ]
            refine wpAnyH_ready (rs := [1]) (by kernel_rfl) (by simp) (AllReadyH.cons rfl (fun K hK => ?_) AllReadyH.nil)
            try simp only [Go.wp_at_succ, Go.wp_at_zero]
            go_simp
            refine hK.out _ _ (HS.out _ (Bu1.out.alloc Bu1.out.size _)) (fun hHeld => ?_)
            clear hK K
            try simp only [Act.put, List.setIfInBounds_toArray, List.set_cons_zero, List.set_cons_succ]
            obtain ⟨u2, hN⟩ : ∃ u, u = u1.alloc (.cells #[] 34) := ⟨_, rfl⟩
            rw [← hN] at hHeld ⊢
            have Bu2 : Hid (Below W.heap.size W u2) := by rw [hN]; exact Bu1.out.alloc Bu1.out.size _
            have Xu2 : Hid (u2.heap[u0.heap.size]? = some (.cells #[.int .i64 cl, .int .i64 sq, .int .i64 kd, .int .i64 id, .int .i64 mt, .string dt] 34 (0, 0))) := by rw [hN]; exact alloc_keepJ _ Xu1.out
            have Eu2 : Hid (u2.heap[u1.heap.size]? = some (.cells #[] 34 (0, 0))) := by rw [hN]; exact heap_alloc_new u1 _
            clear hN
            refine wpAnyH_ready (rs := [6]) (by kernel_rfl) (by simp) (AllReadyH.cons rfl (fun K hK => ?_) AllReadyH.nil)
            have HRu : Hid (u2.ownsRow W.heap.size 34 6 (.slice (some ⟨u1.heap.size, 0, none⟩) 0 0) 0 []) := ⟨rfl, .inr ⟨u1.heap.size, 0, #[], rfl, Bu1.out.size, Eu2.out, Nat.le_refl _, Nat.zero_le _, rfl, rfl⟩⟩
            refine stepApp rfl (.tmp 22) (.tmp 26) 29 29 rfl W.heap.size 34 i0 (.agg #[.int .i64 0, .int .i64 0, .int .i64 0, .int .i64 0, .int .i64 0, .string ⟨#[]⟩]) 6 56 Try.underlying29 hi hz0 hz1 hz2 rfl (.slice (some ⟨u1.heap.size, 0, none⟩) 0 0) _ _ rfl HRu.out _ m (reqCs L) rfl (HSA.out _ Bu2.out) ?c3 ?c4 ?c5 ?_
            case c3 => unfold maxLen; omega
            case c4 => omega
            case c5 => exact Bu2.out.size
            intro vu3 u3 O G
            have Bu3 : Hid (Below W.heap.size W u3) := Bu2.out.grown G Bu2.out.size (fun y hy => (HRu.out.lt y hy).1)
            rw [Nat.zero_add, List.nil_append] at O
            have Xu3 : Hid (u3.heap[u0.heap.size]? = some (.cells #[.int .i64 cl, .int .i64 sq, .int .i64 kd, .int .i64 id, .int .i64 mt, .string dt] 34 (0, 0))) := (G.block _ (Array.getElem?_eq_some_iff.1 Xu2.out).1 (fun e => by have h := Xu2.out.symm.trans (show u2.heap[u0.heap.size]? = some (.cells #[] 34 (0, 0)) from by rw [show u0.heap.size = u1.heap.size by simpa [Value.ownBlock] using e]; exact Eu2.out); simp at h)).trans Xu2.out
            obtain ⟨au3, cu3, rfl⟩ := own_shape O
            have Ru3 := Lib.hid O
            clear O G
            refine hK.out _ _ (HS.out _ Bu3.out) (fun hHeld => ?_)
            clear hK K
            try simp only [Act.put]
            try simp only [List.setIfInBounds_toArray]
            refine wpAnyH_ready (rs := [9]) (by kernel_rfl) (by simp) (AllReadyH.cons rfl (fun K hK => ?_) AllReadyH.nil)
            refine stepApp rfl (.tmp 27) (.tmp 29) 29 29 rfl W.heap.size 34 i0 (.agg #[.int .i64 0, .int .i64 0, .int .i64 0, .int .i64 0, .int .i64 0, .string ⟨#[]⟩]) 6 56 Try.underlying29 hi hz0 hz1 hz2 rfl (.slice au3 m cu3) _ _ rfl Ru3.out _ 1 (reqC ⟨cl, sq, kd, id, mt, dt⟩) rfl (srcR18 Xu3.out) ?c3 ?c4 ?c5 ?_
            case c3 => unfold maxLen; omega
            case c4 => omega
            case c5 => exact Bu3.out.size
            intro vu4 u4 O G
            have Bu4 : Hid (Below W.heap.size W u4) := Bu3.out.grown G Bu3.out.size (fun y hy => (Ru3.out.lt y hy).1)
            obtain ⟨au4, cu4, rfl⟩ := ownsRow_succ O
            have Ru4 := Lib.hid O
            clear O G
            refine hK.out _ _ (HS.out _ Bu4.out) (fun hHeld => ?_)
            clear hK K
            try simp only [Act.put]
            try simp only [List.setIfInBounds_toArray]
            first
              | (refine held_take 10 31 (v := ?_) rfl rfl (by kernel_rfl) (by kernel_rfl) (by kernel_rfl) (fun _ _ _ h => h) (by assumption) (by rfl) ?_ ?_; rotate_left; (focus (intro w hSw; (try dsimp only at hSw); go_simp <;> with_reducible rfl)))
              | refine held_pass 10 31 rfl rfl (by kernel_rfl) (by kernel_rfl) (by kernel_rfl) (fun _ _ _ h => h) (by assumption) (by rfl) ?_
            try simp only [Act.put]
            try simp only [List.setIfInBounds_toArray]
            first
              | (refine held_take 11 32 (v := ?_) rfl rfl (by kernel_rfl) (by kernel_rfl) (by kernel_rfl) (fun _ _ _ h => h) (by assumption) (by rfl) ?_ ?_; rotate_left; (focus (intro w hSw; (try dsimp only at hSw); go_simp <;> with_reducible rfl)))
              | refine held_pass 11 32 rfl rfl (by kernel_rfl) (by kernel_rfl) (by kernel_rfl) (fun _ _ _ h => h) (by assumption) (by rfl) ?_
            try simp only [Act.put]
            try simp only [List.setIfInBounds_toArray]
            have hcell := HLD.out _ Bu4.out
            have hfz := HFZ.out _ Bu4.out
            have hbk := HBK.out _ Bu4.out
            have hrw := R3.out.keep Bu4.out R3.out.lt
            refine wpAnyH_ready (rs := [12]) (by kernel_rfl) (by simp) (AllReadyH.cons rfl (fun K hK => ?_) AllReadyH.nil)
            try simp only [Go.wp_at_succ, Go.wp_at_zero]
            go_simp
            have K1 := Lib.hid (ql_set hbk (.slice (some ⟨au4, 0, none⟩) (m + 1) cu4))
            have K2 := Lib.hid (own_atJ Ru4.out hbk (by decide) (Only.set b 1 u4 (.slice (some ⟨au4, 0, none⟩) (m + 1) cu4)))
            have K3 := Lib.hid ((Only.of (S := fun k => k = b) Bu4.out).trans (Only.set b 1 u4 (.slice (some ⟨au4, 0, none⟩) (m + 1) cu4)))
            have K4 : Hid ((fun u => u.cell? ⟨B, 0, none⟩ = some (.int .i64 cl) ∧ u.cell? ⟨B, 1, none⟩ = some (.int .i64 sq) ∧ u.cell? ⟨B, 2, none⟩ = some (.int .i64 kd) ∧ u.cell? ⟨B, 3, none⟩ = some (.int .i64 id) ∧ u.cell? ⟨B, 4, none⟩ = some (.int .i64 mt) ∧ u.cell? ⟨B, 5, none⟩ = some (.string dt)) (u4.setCell ⟨b, 1, none⟩ (.slice (some ⟨au4, 0, none⟩) (m + 1) cu4))) := (hrw.only (Only.set b 1 u4 (.slice (some ⟨au4, 0, none⟩) (m + 1) cu4)) HBNE.out).cells
            clear hcell hfz hbk hrw
            refine hK.out _ _ K4.out (fun hHeld => ?_)
            clear hK K
            try simp only [Act.put]
            refine wpAnyH_done (by kernel_rfl) ?_ _
            go_wp2
            go_meet
            exact ⟨rfl, _, _, K1.out, K2.out, K3.out⟩
      case rest =>
      obtain ⟨rfl, a3, c3, K1, K2, K3⟩ := hcut
      have c2 : wc.cell? ⟨b, 1, none⟩ = some (.slice a3 (m + 1) c3) := by rw [cell_of_row _ _ _ _ _ _ K1.out]; rfl
      go_wp2
      go_returns
      refine ⟨by simp, .slice a3 (m + 1) c3, ⟨K1.out, ?_⟩, (Only.of B3.out).trans K3.out, .inr fun y hy => Nat.le_trans B3.out.size (K2.out.lt y hy).1⟩
      rw [List.length_append, List.length_singleton, ← HM2.out, ← reqCs_app]
      exact rowLow18 K2.out (Nat.le_trans HNW.out B3.out.size)
  by_cases hle : sq ≤ M
  · rw [if_pos hle]
    have h := key true (decide_eq_true hle).symm
    rwa [if_pos rfl] at h
  · rw [if_neg hle]
    have h := key false (decide_eq_false hle).symm
    rwa [if_neg (by decide)] at h
theorem qlput_r (H : QLog n b q vq L c w) (hn : n ≤ w.heap.size) (hL : L.length ≤ 100000) (hok : okL L) (cl sq kd id mt : Int) (dt : ByteArray) (hd : dt.size ≤ maxLen) (L' : List ReqV) (p x : Int) (hV : lputV L ⟨cl, sq, kd, id, mt, dt⟩ = (L', p, x)) :
    Calls Try.prog 47 #[.pointer (some ⟨b, 0, none⟩), .agg #[.int .i64 cl, .int .i64 sq, .int .i64 kd, .int .i64 id, .int .i64 mt, .string dt]] w (QPutR n b q vq L' p x c w) := by
  have hd' : dt.size ≤ 9223372036854775807 := by unfold maxLen at hd; omega
  by_cases hm : ReqV.may ⟨cl, sq, kd, id, mt, dt⟩
  · have HM : Hid (∀ u, Calls Try.prog 73 #[.agg #[.int .i64 cl, .int .i64 sq, .int .i64 kd, .int .i64 id, .int .i64 mt, .string dt]] u fun e w' => e = .returned (.bool true) ∧ Below u.heap.size u w') := fun u => refmay_r cl sq kd id mt dt hd' true (decide_eq_true hm).symm u
    have hm' := hm
    unfold ReqV.may at hm'
    simp only at hm'
    by_cases hw : kd ≤ 3
    · have HW : Hid (∀ u, Calls Try.prog 83 #[.agg #[.int .i64 cl, .int .i64 sq, .int .i64 kd, .int .i64 id, .int .i64 mt, .string dt]] u fun e w' => e = .returned (.bool true) ∧ Below u.heap.size u w') := fun u => refwrites_r cl sq kd id mt dt true (decide_eq_true (by omega)).symm u
      have hs : seqR L cl = seqL L cl.toNat := by rw [seqR_seqV hok]; unfold seqV; rw [if_pos (by omega)]
      have h := qlput_may H hn hL cl sq kd id mt dt HM HW _ hs
      by_cases ho : sq ≤ seqL L cl.toNat
      · rw [lputV_old ⟨hm, hw⟩ ho] at hV
        simp only [Prod.mk.injEq] at hV
        obtain ⟨rfl, rfl, rfl⟩ := hV
        rwa [if_pos ho] at h
      · rw [lputV_yes ⟨hm, hw⟩ ho] at hV
        simp only [Prod.mk.injEq] at hV
        obtain ⟨rfl, rfl, rfl⟩ := hV
        rwa [if_neg ho] at h
    · have HW : Hid (∀ u, Calls Try.prog 83 #[.agg #[.int .i64 cl, .int .i64 sq, .int .i64 kd, .int .i64 id, .int .i64 mt, .string dt]] u fun e w' => e = .returned (.bool false) ∧ Below u.heap.size u w') := fun u => refwrites_r cl sq kd id mt dt false (decide_eq_false (by omega)).symm u
      rw [lputV_bad (fun hp => hw hp.2)] at hV
      simp only [Prod.mk.injEq] at hV
      obtain ⟨rfl, rfl, rfl⟩ := hV
      exact qlput_bad2 H cl sq kd id mt dt HM HW
  · have HM : Hid (∀ u, Calls Try.prog 73 #[.agg #[.int .i64 cl, .int .i64 sq, .int .i64 kd, .int .i64 id, .int .i64 mt, .string dt]] u fun e w' => e = .returned (.bool false) ∧ Below u.heap.size u w') := fun u => refmay_r cl sq kd id mt dt hd' false (decide_eq_false hm).symm u
    rw [lputV_bad (fun hp => hm hp.1)] at hV
    simp only [Prod.mk.injEq] at hV
    obtain ⟨rfl, rfl, rfl⟩ := hV
    exact qlput_bad1 H cl sq kd id mt dt HM
/-- What Take makes of the reference's log. -/
def QTakeR (n b : Nat) (q : Int) (vq : Value) (L' : List ReqV) (x : Int) (c : Nat) (w : World) (e : Ending) (w' : World) : Prop :=
  e = .returned (.int .i64 x) ∧ ∃ vq', QLog n b q vq' L' c w' ∧ Only (· = b) w w' ∧ (vq' = vq ∨ ∀ y, vq'.ownBlock = some y → w.heap.size ≤ y)
set_option maxHeartbeats 1000000 in
theorem qltake_no (H : QLog n b q vq L c w) (k : Int) (hw : Hid (1 ≤ k → wrap64 (k - 1) = k - 1)) (hk : k ≠ (L.length : Int) + 1) (cl sq kd id mt : Int) (dt : ByteArray) :
    Calls Try.prog 48 #[.pointer (some ⟨b, 0, none⟩), .int .i64 k, .agg #[.int .i64 cl, .int .i64 sq, .int .i64 kd, .int .i64 id, .int .i64 mt, .string dt]] w (QTakeR n b q vq L 9 c w) := by
  obtain ⟨a, cap, rfl⟩ := H.shape
  obtain ⟨N, hN⟩ : ∃ N, N = L.length := ⟨_, rfl⟩
  obtain ⟨w1, hw1⟩ : ∃ w1, w1 = w.alloc (.cells #[.int .i64 cl, .int .i64 sq, .int .i64 kd, .int .i64 id, .int .i64 mt, .string dt] 34) := ⟨_, rfl⟩
  have B1 : Hid (Below w.heap.size w w1) := by rw [hw1]; exact (Below.refl _ _).alloc (Nat.le_refl _) _
  have HH := Lib.hid (H.on B1.out)
  rw [← hN] at HH hk ⊢
  have HW := Lib.hid hw1
  obtain ⟨_, z1, _⟩ := HH.out.cells
  clear H hw1 hN
  by_cases h1 : k < 1
  · clear hk hw
    go_enter Try.func48, Try.ntmps48
    go_upto_region 1 with fail
    rw [← HW.out]
    go_wp2
    go_returns
    exact ⟨rfl, .slice a N cap, HH.out, .of B1.out, .inl rfl⟩
  · have hw' := Lib.hid (hw.out (by omega))
    have hb : (k - 1 != (N : Int)) = true := by rw [bne_iff_ne]; omega
    have h2 : 1 ≤ k := by omega
    clear hk hw h1
    go_enter Try.func48, Try.ntmps48
    go_upto_region 1 with fail
    rw [← HW.out]
    have e1 := hw'.out
    go_wp2
    go_returns
    exact ⟨rfl, .slice a N cap, HH.out, .of B1.out, .inl rfl⟩
set_option maxHeartbeats 1000000 in
theorem qltake_yes (H : QLog n b q vq L c w) (hn : n ≤ w.heap.size) (hL : L.length ≤ 100000) (hok : okL L) (cl sq kd id mt : Int) (dt : ByteArray) (hd : dt.size ≤ maxLen) (L' : List ReqV) (p x : Int) (hV : lputV L ⟨cl, sq, kd, id, mt, dt⟩ = (L', p, x)) :
    Calls Try.prog 48 #[.pointer (some ⟨b, 0, none⟩), .int .i64 ((L.length : Int) + 1), .agg #[.int .i64 cl, .int .i64 sq, .int .i64 kd, .int .i64 id, .int .i64 mt, .string dt]] w (QTakeR n b q vq L' x c w) := by
  obtain ⟨a, cap, rfl⟩ := H.shape
  obtain ⟨N, hN⟩ : ∃ N, N = L.length := ⟨_, rfl⟩
  obtain ⟨w1, hw1⟩ : ∃ w1, w1 = w.alloc (.cells #[.int .i64 cl, .int .i64 sq, .int .i64 kd, .int .i64 id, .int .i64 mt, .string dt] 34) := ⟨_, rfl⟩
  have hb1 : Below w.heap.size w w1 := by rw [hw1]; exact (Below.refl _ _).alloc (Nat.le_refl _) _
  have B1 := Lib.hid hb1
  have HP : Hid (Calls Try.prog 47 #[.pointer (some ⟨b, 0, none⟩), .agg #[.int .i64 cl, .int .i64 sq, .int .i64 kd, .int .i64 id, .int .i64 mt, .string dt]] w1 (QPutR n b q (.slice a L.length cap) L' p x c w1)) := qlput_r (H.on hb1) (Nat.le_trans hn hb1.size) hL hok cl sq kd id mt dt hd L' p x hV
  have HH := Lib.hid (H.on hb1)
  rw [← hN] at HH HP ⊢
  have hN1 : N ≤ 100000 := by omega
  have R1 : Hid (ReqB w1 w.heap.size cl sq kd id mt dt) := by rw [hw1]; exact ReqB.fresh w cl sq kd id mt dt 34
  have HW := Lib.hid hw1
  obtain ⟨B, hB⟩ : ∃ B, B = w.heap.size := ⟨_, rfl⟩
  rw [← hB] at R1
  have HBB := Lib.hid hB
  obtain ⟨_, z1, _⟩ := HH.out.cells
  obtain ⟨x0, x1, x2, x3, x4, x5⟩ := R1.out.cells
  have n1 : ¬ (N : Int) + 1 < 1 := by omega
  clear H hw1 hb1 hB hV hd hok hL hn hN
  go_enter Try.func48, Try.ntmps48
  go_upto_region 1 with fail
  rw [← HW.out, ← HBB.out]
  go_wp2_with fail
  refine HP.out.mono ?_
  rintro e w2 ⟨rfl, vq', q2, o2, h2⟩
  have Q2 := Lib.hid q2
  have O2 := Lib.hid ((Only.of (S := fun k => k = b) B1.out).trans o2)
  have H2 : Hid (vq' = .slice a N cap ∨ ∀ y, vq'.ownBlock = some y → w.heap.size ≤ y) := h2.imp (fun h => h) (fun h y hy => Nat.le_trans B1.out.size (h y hy))
  clear q2 o2 h2 x0 x1 x2 x3 x4 x5 z1
  go_wp2
  go_returns
  exact ⟨rfl, vq', Q2.out, O2.out, H2.out⟩
end
end Go.Proofs.Ytenjjgghoacboaa

/-! ## LnK -/
/-
  A LOG BESIDE THE REFERENCE's, and a step's block. No condition.
-/
namespace Go.Proofs.Ytenjjgghoacboaa
open Go.RowKit

/-- The program's log (L, c) and the reference's (M, k). -/
structure LPB (n : Nat) (w : World) (g b : Nat) (q : Int) (L : List ReqV) (c : Nat) (M : List ReqV) (k : Nat) (S : Nat → Prop) (vq : Value) (u : World) : Prop where
  lo : GLo n w g q L c S u
  rf : QLog n b q vq M k u
  nb : ¬ S b
  nr : ∀ y, vq.ownBlock = some y → ¬ S y
  low : n ≤ b
section
variable {n : Nat} {w u u' : World} {g b : Nat} {q : Int} {L L' M M' : List ReqV} {c c' k k' : Nat} {S S' : Nat → Prop} {vq vq' : Value}
theorem QLog.noBool (h : QLog n b q vq M k u) : NoBool u b := by
  intro o x hx
  obtain ⟨a, cp, rfl⟩ := h.shape
  rw [cell_of_row _ _ _ _ _ _ h.blk] at hx
  match o, hx with
  | 0, hx => simp at hx
  | 1, hx => simp at hx
  | 2, hx => simp at hx
  | (o + 3), hx => simp at hx
theorem LPB.on (h : LPB n w g b q L c M k S vq u) (hb : Below u.heap.size u u') : LPB n w g b q L c M k S vq u' := ⟨h.lo.on hb, h.rf.on hb, h.nb, h.nr, h.low⟩
theorem LPB.turnA (h : LPB n w g b q L c M k S vq u) (t : LTurn n w g q L' c' S S' u u') : LPB n w g b q L' c' M k S' vq u' :=
  ⟨t.lo, h.rf.only t.only h.nb h.nr, fun hs => (t.more b hs).elim h.nb fun hx => by have := h.rf.cut; omega, fun y hy hs => (t.more y hs).elim (h.nr y hy) fun hx => by have := (h.rf.row.lt y hy).2; omega, h.low⟩
theorem LPB.turnB (h : LPB n w g b q L c M k S vq u) (hq : QLog n b q vq' M' k' u') (ho : Only (· = b) u u') (hv : vq' = vq ∨ ∀ y, vq'.ownBlock = some y → u.heap.size ≤ y) : LPB n w g b q L c M' k' S vq' u' :=
  ⟨h.lo.keep ho (fun x hx e => h.nb (e ▸ hx)) (fun x hx _ => by subst hx; exact ⟨h.rf.noBool, h.low⟩), hq, h.nb, fun y hy hs => by
    rcases hv with rfl | hv
    · exact h.nr y hy hs
    · have h1 := hv y hy
      have h2 := (h.lo.all hs).2.1
      omega, h.low⟩
theorem LPB.commit (h : LPB n w g b q L c M k S vq u) (k' : Nat) : LPB n w g b q L c M k' S vq (u.setCell ⟨b, 2, none⟩ (.int .i64 k')) := by
  have ho : Only (· = b) u (u.setCell ⟨b, 2, none⟩ (.int .i64 k')) := Only.set b 2 u _
  refine h.turnB ⟨?_, ?_⟩ ho (.inl rfl)
  · rw [heap_setCell_same _ _ _ _ _ _ h.rf.blk]; rfl
  · exact own_atJ h.rf.row h.rf.blk (by decide) ho
end
/-- A step's block. -/
def OpB18 (u : World) (B : Nat) (kd N M cl sq k id mt : Int) (dt : ByteArray) : Prop := u.heap[B]? = some (.cells #[.int .i64 kd, .int .i64 N, .int .i64 M, .int .i64 cl, .int .i64 sq, .int .i64 k, .int .i64 id, .int .i64 mt, .string dt] 36 (0, 0))
theorem OpB18.cells {u : World} {B : Nat} {kd N M cl sq k id mt : Int} {dt : ByteArray} (h : OpB18 u B kd N M cl sq k id mt dt) : u.cell? ⟨B, 0, none⟩ = some (.int .i64 kd) ∧ u.cell? ⟨B, 1, none⟩ = some (.int .i64 N) ∧ u.cell? ⟨B, 2, none⟩ = some (.int .i64 M) ∧ u.cell? ⟨B, 3, none⟩ = some (.int .i64 cl) ∧ u.cell? ⟨B, 4, none⟩ = some (.int .i64 sq) ∧ u.cell? ⟨B, 5, none⟩ = some (.int .i64 k) ∧ u.cell? ⟨B, 6, none⟩ = some (.int .i64 id) ∧ u.cell? ⟨B, 7, none⟩ = some (.int .i64 mt) ∧ u.cell? ⟨B, 8, none⟩ = some (.string dt) := by
  refine ⟨?_, ?_, ?_, ?_, ?_, ?_, ?_, ?_, ?_⟩ <;> rw [cell_of_row _ _ _ _ _ _ h] <;> rfl
/-- Both logs and a step's block. -/
structure LPO (n : Nat) (w : World) (g b : Nat) (q : Int) (L : List ReqV) (c : Nat) (M : List ReqV) (k : Nat) (S : Nat → Prop) (vq : Value) (B : Nat) (kd N MM cl sq kk id mt : Int) (dt : ByteArray) (u : World) : Prop where
  p : LPB n w g b q L c M k S vq u
  op : OpB18 u B kd N MM cl sq kk id mt dt
  ns : ¬ S B
  ne : ¬ B = b
section
variable {n : Nat} {w u u' : World} {g b : Nat} {q : Int} {L L' M M' : List ReqV} {c c' k k' : Nat} {S S' : Nat → Prop} {vq vq' : Value} {B : Nat} {kd N MM cl sq kk id mt : Int} {dt : ByteArray}
theorem LPO.on (h : LPO n w g b q L c M k S vq B kd N MM cl sq kk id mt dt u) (hb : Below u.heap.size u u') : LPO n w g b q L c M k S vq B kd N MM cl sq kk id mt dt u' := ⟨h.p.on hb, (hb.block B (lt_of_block h.op)).trans h.op, h.ns, h.ne⟩
theorem LPO.turnA (h : LPO n w g b q L c M k S vq B kd N MM cl sq kk id mt dt u) (t : LTurn n w g q L' c' S S' u u') : LPO n w g b q L' c' M k S' vq B kd N MM cl sq kk id mt dt u' :=
  ⟨h.p.turnA t, (t.only.block B (lt_of_block h.op) h.ns).trans h.op, fun hs => (t.more B hs).elim h.ns fun hx => by have := lt_of_block h.op; omega, h.ne⟩
theorem LPO.turnB (h : LPO n w g b q L c M k S vq B kd N MM cl sq kk id mt dt u) (hq : QLog n b q vq' M' k' u') (ho : Only (· = b) u u') (hv : vq' = vq ∨ ∀ y, vq'.ownBlock = some y → u.heap.size ≤ y) : LPO n w g b q L c M' k' S vq' B kd N MM cl sq kk id mt dt u' :=
  ⟨h.p.turnB hq ho hv, (ho.block B (lt_of_block h.op) h.ne).trans h.op, h.ns, h.ne⟩
theorem LPO.commit (h : LPO n w g b q L c M k S vq B kd N MM cl sq kk id mt dt u) (k' : Nat) : LPO n w g b q L c M k' S vq B kd N MM cl sq kk id mt dt (u.setCell ⟨b, 2, none⟩ (.int .i64 k')) :=
  ⟨h.p.commit k', ((Only.set b 2 u (.int .i64 k')).block B (lt_of_block h.op) h.ne).trans h.op, h.ns, h.ne⟩
theorem LPO.new (h : LPB n w g b q L c M k S vq u) : LPO n w g b q L c M k S vq u.heap.size kd N MM cl sq kk id mt dt (u.alloc (.cells #[.int .i64 kd, .int .i64 N, .int .i64 MM, .int .i64 cl, .int .i64 sq, .int .i64 kk, .int .i64 id, .int .i64 mt, .string dt] 36)) :=
  ⟨h.on ((Below.refl _ _).alloc (Nat.le_refl _) _), heap_alloc_new u _, fun hs => by have := (h.lo.all hs).2.1; omega, fun e => by have := h.rf.cut; omega⟩
end
/-- How a step ends. -/
def StepR (n : Nat) (w : World) (g b : Nat) (q : Int) (m : Nat) (e : Ending) (w' : World) : Prop :=
  e = .returned (.bool true) ∧ ∃ L' c' S' vq', L'.length ≤ m ∧ Hid (LPB n w g b q L' c' L' c' S' vq' w')
end Go.Proofs.Ytenjjgghoacboaa

/-! ## LnArgs -/
/-
  WHAT CAME IN: steps on a log, each with a request. No condition.
-/
namespace Go.Proofs.Ytenjjgghoacboaa
open Go.ChangeShapes Go.WideShapes Go.ChangeAt Go.RowKit

def Wf18 (x : Int) : Prop := -9223372036854775808 ≤ x ∧ x ≤ 9223372036854775807
theorem wf18_of {x : Int} (h : (Lit.int .i64 x).wf = true) : Wf18 x := by
  simp [Lit.wf, IntKind.min, IntKind.max, IntKind.signed, IntKind.bits] at h
  exact ⟨by omega, by omega⟩
/-- A step on a log as plain data. -/
structure LStepV where
  kd : Int
  n : Int
  m : Int
  q : ReqV
instance : Inhabited LStepV := ⟨⟨0, 0, 0, default⟩⟩
def LStepCells (w : World) (b off : Nat) (o : LStepV) : Prop := w.cell? ⟨b, off, none⟩ = some (.int .i64 o.kd) ∧ w.cell? ⟨b, off + 1, none⟩ = some (.int .i64 o.n) ∧ w.cell? ⟨b, off + 2, none⟩ = some (.int .i64 o.m) ∧ w.cell? ⟨b, off + 3, none⟩ = some (.int .i64 o.q.client) ∧ w.cell? ⟨b, off + 4, none⟩ = some (.int .i64 o.q.seq) ∧ w.cell? ⟨b, off + 5, none⟩ = some (.int .i64 o.q.kind) ∧ w.cell? ⟨b, off + 6, none⟩ = some (.int .i64 o.q.id) ∧ w.cell? ⟨b, off + 7, none⟩ = some (.int .i64 o.q.mtch) ∧ w.cell? ⟨b, off + 8, none⟩ = some (.string o.q.data)
def LStepV.fits (o : LStepV) : Prop := Wf18 o.n ∧ o.q.data.size ≤ maxLen
/-- The slice value v holds the steps L, in a block below B. -/
def LSteps (w : World) (B : Nat) (v : Value) (L : List LStepV) : Prop :=
  ∃ ao cap, v = .slice ao L.length cap ∧ L.length ≤ maxLen ∧ (∀ o ∈ L, o.fits) ∧
    (L ≠ [] → ∃ b off, ao = some ⟨b, off, none⟩ ∧ b < B ∧ ∀ i (h : i < L.length), LStepCells w b (off + i * 9) L[i])
theorem LStepCells.keep {w w' : World} {B b off : Nat} {o : LStepV} (h : LStepCells w b off o) (hb : Below B w w') (hB : b < B) : LStepCells w' b off o :=
  ⟨(hb.cell (p := ⟨b, off, none⟩) hB).trans h.1, (hb.cell (p := ⟨b, off + 1, none⟩) hB).trans h.2.1, (hb.cell (p := ⟨b, off + 2, none⟩) hB).trans h.2.2.1, (hb.cell (p := ⟨b, off + 3, none⟩) hB).trans h.2.2.2.1, (hb.cell (p := ⟨b, off + 4, none⟩) hB).trans h.2.2.2.2.1, (hb.cell (p := ⟨b, off + 5, none⟩) hB).trans h.2.2.2.2.2.1, (hb.cell (p := ⟨b, off + 6, none⟩) hB).trans h.2.2.2.2.2.2.1, (hb.cell (p := ⟨b, off + 7, none⟩) hB).trans h.2.2.2.2.2.2.2.1, (hb.cell (p := ⟨b, off + 8, none⟩) hB).trans h.2.2.2.2.2.2.2.2⟩

theorem cells_int18 : Try.prog.cellsOf 3 = 1 := by kernel_rfl
theorem cells_Req18 : Try.prog.cellsOf 34 = 6 := by kernel_rfl
theorem cells_LOp : Try.prog.cellsOf 36 = 9 := by kernel_rfl
set_option maxRecDepth 100000 in
theorem lstep_open {H : Type} {enc : TypeId × Value → H} {w : World} {base : Nat} {held : Bool} {n : Nat} {cs : List Value} {x : DataW H × List MemPlace} (hl : cs.length = 9)
    (h : DataW.trod enc Try.prog w base (fun _ => true) held n 36 cs = some x) :
    ∃ o : LStepV, o.fits ∧ cs = [.int .i64 o.kd, .int .i64 o.n, .int .i64 o.m, .int .i64 o.q.client, .int .i64 o.q.seq, .int .i64 o.q.kind, .int .i64 o.q.id, .int .i64 o.q.mtch, .string o.q.data] := by
  obtain ⟨xs, m, _, _, _, hxl, hf⟩ := DataW.trod_struct Try.underlying36 h
  match cs, hl with
  | [c0, c1, c2, c3, c4, c5, c6, c7, c8], _ =>
    match xs, hxl with
    | [y0, y1, y2, y3], _ =>
      have h0 : DataW.trod enc Try.prog w base (fun _ => true) held m 3 [c0] = some y0 := by simpa [cells_int18, cells_Req18] using hf 0 _ rfl
      have h1 : DataW.trod enc Try.prog w base (fun _ => true) held m 3 [c1] = some y1 := by simpa [cells_int18, cells_Req18] using hf 1 _ rfl
      have h2 : DataW.trod enc Try.prog w base (fun _ => true) held m 3 [c2] = some y2 := by simpa [cells_int18, cells_Req18] using hf 2 _ rfl
      have h3 : DataW.trod enc Try.prog w base (fun _ => true) held m 34 [c3, c4, c5, c6, c7, c8] = some y3 := by simpa [cells_int18, cells_Req18] using hf 3 _ rfl
      obtain ⟨a0, e0, _, _⟩ := DataW.trod_int Try.underlying3 h0
      obtain ⟨a1, e1, _, w1⟩ := DataW.trod_int Try.underlying3 h1
      obtain ⟨a2, e2, _, _⟩ := DataW.trod_int Try.underlying3 h2
      obtain ⟨q, hq, e3⟩ := req1_open rfl h3
      simp only [List.cons.injEq, and_true] at e0 e1 e2
      subst e0 e1 e2
      refine ⟨⟨a0, a1, a2, q⟩, ⟨wf18_of w1, hq⟩, ?_⟩
      rw [e3]
set_option maxRecDepth 100000 in
theorem lsteps_open {H : Type} {enc : TypeId × Value → H} {w : World} {a : Option Addr} {len cap : Nat} {d : DataW H} {p : List MemPlace} (h : DataW.Trod enc Try.prog w 0 (fun _ => true) true 22 (.slice a len cap) d p) :
    ∃ L, LSteps w w.heap.size (.slice a len cap) L := by
  obtain ⟨fuel, hf⟩ := h
  rcases Go.Deep.open_slice Try.underlying22 hf with ⟨hcs, _⟩ | ⟨x, l, c, m, n, D, P1, hcs, _, hl, hm, hmm, _, hi⟩
  · simp [Value.cells] at hcs
    obtain ⟨rfl, rfl, rfl⟩ := hcs
    exact ⟨[], none, 0, rfl, Nat.zero_le _, by simp, fun h => absurd rfl h⟩
  · simp [Value.cells] at hcs
    obtain ⟨rfl, rfl, rfl⟩ := hcs
    have hml : len ≤ m := by rw [hmm]; split <;> omega
    have each : ∀ i, i < len → ∃ o : LStepV, o.fits ∧ w.cell? (x.add (i * 9)) = some (.int .i64 o.kd) ∧ w.cell? (x.add (i * 9 + 1)) = some (.int .i64 o.n) ∧ w.cell? (x.add (i * 9 + 2)) = some (.int .i64 o.m) ∧ w.cell? (x.add (i * 9 + 3)) = some (.int .i64 o.q.client) ∧ w.cell? (x.add (i * 9 + 4)) = some (.int .i64 o.q.seq) ∧ w.cell? (x.add (i * 9 + 5)) = some (.int .i64 o.q.kind) ∧ w.cell? (x.add (i * 9 + 6)) = some (.int .i64 o.q.id) ∧ w.cell? (x.add (i * 9 + 7)) = some (.int .i64 o.q.mtch) ∧ w.cell? (x.add (i * 9 + 8)) = some (.string o.q.data) := by
      intro i hil
      obtain ⟨cs', hc, ht⟩ := hi i (by omega)
      rw [cells_LOp] at hc
      obtain ⟨_, hcl, hat⟩ := World.cells?_some hc
      obtain ⟨o, ho, rfl⟩ := lstep_open hcl ht
      have g := fun j hj => (Go.Deep.add_add x (i * 9) j) ▸ hat j hj
      exact ⟨o, ho, g 0 (by omega), g 1 (by omega), g 2 (by omega), g 3 (by omega), g 4 (by omega), g 5 (by omega), g 6 (by omega), g 7 (by omega), g 8 (by omega)⟩
    obtain ⟨f, hF⟩ := Go.Deep.choose_lt each
    have hlen : ((List.range len).map f).length = len := by simp
    refine ⟨(List.range len).map f, some x, cap, by rw [hlen], by rw [hlen]; omega, ?_, fun hne => ?_⟩
    · intro o ho
      obtain ⟨i, hi', rfl⟩ := List.mem_map.1 ho
      exact (hF i (List.mem_range.1 hi')).1
    · have hpos : 0 < len := by
        rcases Nat.eq_zero_or_pos len with h | h
        · subst h; exact absurd rfl hne
        · exact h
      obtain ⟨b, off, spot⟩ := x
      have hspot : spot = none := by simpa [Addr.add] using World.cell?_spot (hF 0 hpos).2.1
      subst hspot
      have hc0 := (hF 0 hpos).2.1
      rw [Addr.add_lit] at hc0
      refine ⟨b, off, rfl, World.block_lt_of_cell? _ _ hc0, fun i h => ?_⟩
      rw [hlen] at h
      have hf := (hF i h).2
      simp only [Addr.add_lit, ← Nat.add_assoc] at hf
      have e : ((List.range len).map f)[i] = f i := by simp
      rw [e]
      exact ⟨hf.1, hf.2.1, hf.2.2.1, hf.2.2.2.1, hf.2.2.2.2.1, hf.2.2.2.2.2.1, hf.2.2.2.2.2.2.1, hf.2.2.2.2.2.2.2.1, hf.2.2.2.2.2.2.2.2⟩
end Go.Proofs.Ytenjjgghoacboaa
