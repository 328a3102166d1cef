/-
  THE REFERENCE's GRANTS: their block and row; NewGrants, Give, Veto. No condition but that a chain has at most a million nodes, and times are small.
-/
import Derived.Test.YtomjlhmkmihbeaaGrantX
import Derived.Test.YtomjlhmkmihbeaaChainR
import Derived.Test.YtomjlhmkmihbeaaAccV
namespace Go.Proofs.Ytomjlhmkmihbeaa
open Go.RowKit

/-- Block rb is the reference's grants, from block m on. -/
structure RGr (w : World) (m rb ab n beg c : Nat) (f : Nat → Nat) : Prop where
  blk : w.heap[rb]? = some (.cells #[.int .i64 n, .int .i64 beg, .slice (some ⟨ab, 0, none⟩) n c] 81 (0, 0))
  row : RowX w ab n f
  low : m ≤ rb ∧ m ≤ ab
  pos : 0 < n
  le : n ≤ 5
section
variable {w w' : World} {m rb ab n beg c : Nat} {f : Nat → Nat}
theorem RGr.lt (H : RGr w m rb ab n beg c f) : rb < w.heap.size ∧ ab < w.heap.size := ⟨lt_of_block H.blk, H.row.lt⟩
theorem RGr.cells (H : RGr w m rb ab n beg c f) : w.cell? ⟨rb, 0, none⟩ = some (.int .i64 n) ∧ w.cell? ⟨rb, 1, none⟩ = some (.int .i64 beg) ∧ w.cell? ⟨rb, 2, none⟩ = some (.slice (some ⟨ab, 0, none⟩) n c) := by
  have H' := H.blk
  refine ⟨?_, ?_, ?_⟩ <;> (rw [cell_of_row _ _ _ _ _ _ H']; rfl)
theorem RGr.ne (H : RGr w m rb ab n beg c f) : rb ≠ ab := fun e => by
  obtain ⟨cur, h, _⟩ := H.row
  have := H.blk.symm.trans (e ▸ h)
  simp at this
theorem RGr.keep {S : Nat → Prop} (H : RGr w m rb ab n beg c f) (ho : Only S w w') (h1 : ¬ S rb) (h2 : ¬ S ab) : RGr w' m rb ab n beg c f :=
  ⟨(ho.block rb H.lt.1 h1).trans H.blk, H.row.keep ho h2, H.low, H.pos, H.le⟩
theorem RGr.on (H : RGr w m rb ab n beg c f) (hb : Below w.heap.size w w') : RGr w' m rb ab n beg c f := H.keep (S := fun _ => False) (.of hb) (fun h => h) (fun h => h)
theorem RGr.set (H : RGr w m rb ab n beg c f) (k v : Nat) : RGr (w.setCell ⟨ab, k, none⟩ (.int .i64 (v : Nat))) m rb ab n beg c (upF f k v) :=
  ⟨(Below.heap_setCell _ _ _ rb H.ne).trans H.blk, H.row.set k v, H.low, H.pos, H.le⟩
theorem RGr.drew (H : RGr w m rb ab n beg c f) : RGr w.drew m rb ab n beg c f := H.keep (S := fun _ => False) (Only.drew (.refl _ _)) (fun h => h) (fun h => h)
end
/-- Those below k were promised at t. -/
def grF (t k : Nat) : Nat → Nat := fun j => if j < k then t + 50 else 0

/-- The reference's grants while they are made. -/
structure NGr (w : World) (n t v i : Nat) (a : Option Addr) (c : Nat) (u : World) : Prop where
  bel : Below w.heap.size w u
  blk : u.heap[w.heap.size]? = some (.cells #[.int .i64 n, .int .i64 t, .slice a i c] 81 (0, 0))
  row : u.ownsRow (w.heap.size + 1) 3 1 (.slice a i c) i (intCells (List.replicate i (v : Int)))
theorem NGr.cells {w u : World} {n t v i : Nat} {a : Option Addr} {c : Nat} (h : NGr w n t v i a c u) : u.cell? ⟨w.heap.size, 2, none⟩ = some (.slice a i c) ∧ u.frozen? ⟨w.heap.size, 2, none⟩ = false ∧ w.heap.size < u.heap.size := by
  have H' := h.blk
  exact ⟨by rw [cell_of_row _ _ _ _ _ _ H']; rfl, by simp [World.frozen?, H'], lt_of_block H'⟩
theorem info_intG : (Try.prog.info? 3).map (fun i => (i.zero, i.size, i.bytes)) = some (some (.int .i64 0), 1, 8) := by kernel_rfl

set_option maxRecDepth 100000 in
set_option maxHeartbeats 2000000 in
theorem qgnew_yes (n t : Nat) (w : World) (h0 : 0 < n) (h5 : n ≤ 5) (ht : t ≤ 1000000) :
    Calls Try.prog 22 #[.int .i64 n, .int .i64 t] w fun e w' => ∃ ab c, e = .returned (.pointer (some ⟨w.heap.size, 0, none⟩)) ∧ RGr w' w.heap.size w.heap.size ab n t c (grF t n) ∧ Below w.heap.size w w' := by
  obtain ⟨i0, hi, hz0, hz1, hz2⟩ := info_parts info_intG
  have a1 : ¬ (n : Int) < 1 := by omega
  have a5 : ¬ 5 < (n : Int) := by omega
  have t0 : ¬ (t : Int) < 0 := by omega
  have t1 : ¬ 1099511627776 < (t : Int) := by omega
  obtain ⟨v, hv⟩ : ∃ v, v = t + 50 := ⟨_, rfl⟩
  have hv' : (v : Int) = (t : Int) + 50 := by omega
  have HV := Lib.hid hv
  have HV' := Lib.hid hv'
  have HS : Hid (NGr w n t v 0 none 0 (w.alloc (.cells #[.int .i64 n, .int .i64 t, .slice none 0 0] 81))) := ⟨(Below.refl _ _).alloc (Nat.le_refl _) _, heap_alloc_new w _, World.ownsRow_nil _ _ _ _⟩
  have H05 := Lib.hid (And.intro h0 h5)
  clear h0 h5 hv hv'
  go_enter Try.func22, Try.ntmps22
  go_wp2_with fail
  go_loopw [6] (fun s6 wr => ∃ (k : Nat) (a : Option Addr) (c : Nat), k ≤ n ∧ s6 = .int .i64 k ∧ Hid (NGr w n t v k a c wr)) (fun s6 _ => n - (intOf s6).toNat)
  case atStart => exact ⟨0, none, 0, Nat.zero_le _, rfl, HS.out⟩
  case round =>
    clear HS
    obtain ⟨k, a, c, hk, rfl, HK⟩ := hrel
    have k5 := H05.out.2
    by_cases hlt : k < n
    · have k1 : (k : Int) < (n : Int) := by omega
      obtain ⟨c0, f0, hsz⟩ := HK.out.cells
      go_wp2_with (at_builtin; refine wpList_append_own_src rfl (.tmp 34) (.tmp 37) 41 41 rfl (w.heap.size + 1) 3 i0 (.int .i64 0) 1 8 Try.underlying41 hi hz0 hz1 hz2 rfl _ _ _ rfl (HK.out.row.alloc _) _ 1 (intCells [(t : Int) + 50]) rfl (csrc1 wr _) ?c3 ?c4 ?c5 ?_)
      case c3 => unfold maxLen; omega
      case c4 => omega
      case c5 => simp; omega
      intro v2 w4 O2 G2
      obtain ⟨a2, c2, rfl⟩ := own_shape O2
      have hown : ∀ y, Value.ownBlock (.slice a k c) = some y → w.heap.size + 1 ≤ y := fun y hy => (HK.out.row.lt y hy).1
      have hb2 : Below w.heap.size w w4 := (HK.out.bel.alloc (by omega) _).grown G2 (by simp; omega) (fun y hy => by have := hown y hy; omega)
      have q1 : w4.heap[w.heap.size]? = some (.cells #[.int .i64 n, .int .i64 t, .slice a k c] 81 (0, 0)) :=
        (G2.block _ (by simp; omega) (fun e => by have := hown _ e.symm; omega)).trans ((((Below.refl _ wr).alloc (Nat.le_refl _) _).block _ hsz).trans HK.out.blk)
      have O2' := Lib.hid O2
      have Q1 := Lib.hid q1
      have HB2 := Lib.hid hb2
      clear c0 f0 O2 G2 hown hb2
      have c0 : w4.cell? ⟨w.heap.size, 2, none⟩ = some (.slice a k c) := by rw [cell_of_row _ _ _ _ _ _ q1]; rfl
      have f0 : w4.frozen? ⟨w.heap.size, 2, none⟩ = false := by simp [World.frozen?, q1]
      clear q1
      go_wp2_with fail
      go_roundw
      case rel =>
        have o1 := Only.set w.heap.size 2 w4 (.slice a2 (k + 1) c2)
        refine ⟨k + 1, a2, c2, by omega, by go_num, o1.below HB2.out (fun x hx => by omega) HB2.out.size, ?_, ?_⟩
        · show _ = _
          rw [heap_setCell_same _ _ _ _ _ _ Q1.out]
          rfl
        · rw [List.replicate_succ', ← cells_app, HV'.out]
          have hO := O2'.out
          rw [HV'.out] at hO
          exact own_only hO o1 (by omega)
      case measure => simp [intOf]; omega
    · obtain rfl : k = n := by omega
      have h0 := H05.out.1
      obtain ⟨g, cp, hg⟩ : ∃ g cp, Value.slice a k c = .slice (some ⟨g, 0, none⟩) k cp := by
        obtain ⟨m, hm⟩ : ∃ m, k = m + 1 := ⟨k - 1, by omega⟩
        have hr := HK.out.row
        rw [hm] at hr ⊢
        exact ownsRow_succ hr
      simp only [Value.slice.injEq] at hg
      obtain ⟨rfl, _, rfl⟩ := hg
      have hx : RowX wr g k (grF t k) := RowX.own HK.out.row (fun j hj => by simp [hj, grF, HV.out])
      have hg1 : w.heap.size + 1 ≤ g := (HK.out.row.lt g rfl).1
      have HZ : Hid (RGr wr w.heap.size w.heap.size g k t c (grF t k)) := ⟨HK.out.blk, hx, ⟨Nat.le_refl _, by omega⟩, h0, k5⟩
      have HB := Lib.hid HK.out.bel
      clear hx hg1 HK
      go_wp2
      go_returns
      exact ⟨_, _, rfl, HZ.out, HB.out⟩

set_option maxRecDepth 100000 in
set_option maxHeartbeats 1000000 in
theorem qggive_yes {w : World} {m rb ab n beg c : Nat} {f : Nat → Nat} (H : RGr w m rb ab n beg c f) (t k : Nat) (hk : k < n) (hb : beg ≤ t) (ht : t ≤ 1099511627776) :
    Calls Try.prog 23 #[.pointer (some ⟨rb, 0, none⟩), .int .i64 t, .int .i64 k] w fun e w' => e = .returned (.bool true) ∧ RGr w' m rb ab n beg c (upF f k (max (f k) (t + 50))) ∧ Only (· = ab) w w' := by
  obtain ⟨c0, c1, c2⟩ := H.cells
  have HB' : (beg : Int) ≤ (t : Int) := by omega
  have ht' : (t : Int) ≤ 1099511627776 := by omega
  have hk' : (k : Int) < (n : Int) := by omega
  have k0 : (0 : Int) ≤ (k : Int) := by omega
  have s1 : IntKind.i64.wrap ((t : Int) + 50) = (t : Int) + 50 := by rw [IntKind.wrap_i64]; omega
  obtain ⟨d0, z0⟩ := H.row.cell hk
  have HE := Lib.hid ((H.set k (max (f k) (t + 50))).drew)
  have HO := Lib.hid ((Only.set ab k w (.int .i64 ((max (f k) (t + 50) : Nat) : Int))).drew)
  by_cases hm : f k < t + 50
  · have hm' : ((f k : Nat) : Int) < (t : Int) + 50 := by omega
    rw [show max (f k) (t + 50) = t + 50 by omega] at HE HO ⊢
    generalize f k = fk at *
    clear hb ht hk H hm
    go_enter Try.func23, Try.ntmps23
    go_wp2_with fail
    go_region
    go_wp2
    go_returns
    exact ⟨rfl, HE.out, HO.out⟩
  · have hm' : ¬ ((f k : Nat) : Int) < (t : Int) + 50 := by omega
    rw [show max (f k) (t + 50) = f k by omega] at HE HO ⊢
    generalize f k = fk at *
    clear hb ht hk H hm
    go_enter Try.func23, Try.ntmps23
    go_wp2_with fail
    go_region
    go_wp2
    go_returns
    exact ⟨rfl, HE.out, HO.out⟩

/-! ### Veto -/
def vetoR (n : Nat) (f : Nat → Nat) (t : Int) (F T : List Int) : Bool := decide (∃ x, x ∈ F ∧ x ∉ T ∧ 0 ≤ x ∧ x < (n : Int) ∧ t < (f x.toNat : Int))
/-- A world behind Veto's beginning: what it works with stands. -/
structure VtR (w u : World) (m rb ab n beg c : Nat) (f : Nat → Nat) (ea : Int) (va : Value) (eb : Int) (vb : Value) : Prop where
  bel : Below w.heap.size w u
  gr : RGr u m rb ab n beg c f
  a : ChB u w.heap.size ea va
  b : ChB u (w.heap.size + 1) eb vb
  two : w.heap.size + 2 ≤ u.heap.size
section
variable {w u u' : World} {m rb ab n beg c : Nat} {f : Nat → Nat} {ea eb : Int} {va vb : Value}
theorem VtR.on (h : VtR w u m rb ab n beg c f ea va eb vb) (hb : Below u.heap.size u u') : VtR w u' m rb ab n beg c f ea va eb vb :=
  ⟨h.bel.trans (hb.mono h.bel.size), h.gr.on hb, h.a.keep hb h.a.lt, h.b.keep hb h.b.lt, Nat.le_trans h.two hb.size⟩
theorem VtR.start (H : RGr w m rb ab n beg c f) : VtR w ((w.alloc (.cells #[.int .i64 ea, va] 43)).alloc (.cells #[.int .i64 eb, vb] 43)) m rb ab n beg c f ea va eb vb := by
  have h1 := (Below.refl w.heap.size w).alloc (Nat.le_refl _) (.cells #[.int .i64 ea, va] 43)
  have e1 : (w.alloc (.cells #[.int .i64 ea, va] 43)).heap.size = w.heap.size + 1 := by simp
  have h2 := (Below.refl _ (w.alloc (.cells #[.int .i64 ea, va] 43))).alloc (Nat.le_refl _) (.cells #[.int .i64 eb, vb] 43)
  refine ⟨h1.trans (h2.mono (by omega)), (H.on h1).on h2, (ChB.fresh w ea va 43).keep h2 (by omega), ?_, by simp⟩
  have := ChB.fresh (w.alloc (.cells #[.int .i64 ea, va] 43)) eb vb 43
  rwa [e1] at this
end

set_option maxRecDepth 100000 in
set_option maxHeartbeats 4000000 in
theorem qgveto_r {w : World} {m rb ab n beg c : Nat} {f : Nat → Nat} (H : RGr w m rb ab n beg c f) (t : Int) (ea : Int) (va : Value) (F : List Int) (hF : F.length ≤ 1000000) (eb : Int) (vb : Value) (T : List Int) (hT : T.length ≤ 1000000) (hIa : Ints w w.heap.size va F) (hIb : Ints w w.heap.size vb T) {R : Bool} (hR : vetoR n f t F T = R) :
    Calls Try.prog 24 #[.pointer (some ⟨rb, 0, none⟩), .int .i64 t, .agg #[.int .i64 ea, va], .agg #[.int .i64 eb, vb]] w fun e w' => e = .returned (.bool R) ∧ Below w.heap.size w w' := by
  have HP : Hid (∀ u (x P : Int), plcV T x = P → VtR w u m rb ab n beg c f ea va eb vb → Calls Try.prog 44 #[.agg #[.int .i64 eb, vb], .int .i64 x] u fun e w' => e = .returned (.int .i64 P) ∧ Hid (VtR w w' m rb ab n beg c f ea va eb vb)) :=
    fun u x P hP hu => (rhplace_r eb vb T x w.heap.size u (hIb.keep hu.bel) hu.bel.size hT hP).mono fun _ _ ⟨he, hb⟩ => ⟨he, hu.on hb⟩
  have W0 := Lib.hid (VtR.start (ea := ea) (va := va) (eb := eb) (vb := vb) H)
  have HR := Lib.hid hR
  have HII := Lib.hid hIa
  obtain ⟨aa, ca, rfl⟩ : ∃ a c, va = .slice a F.length c := by obtain ⟨a, c, h, _⟩ := hIa; exact ⟨a, c, h⟩
  obtain ⟨ab', cb, rfl⟩ : ∃ a c, vb = .slice a T.length c := by obtain ⟨a, c, h, _⟩ := hIb; exact ⟨a, c, h⟩
  obtain ⟨q, hq⟩ : ∃ q, q = F.length := ⟨_, rfl⟩
  rw [← hq] at hF HII W0 HP ⊢
  have HQ := Lib.hid hq
  have hn5 := H.le
  clear hq hR hIa hIb hT H
  go_enter Try.func24, Try.ntmps24
  go_wp2_with fail
  go_loopw [9] (fun s9 wr => ∃ k : Nat, k ≤ q ∧ s9 = .int .i64 k ∧ Hid (∀ x, x ∈ F.take k → ¬ (x ∉ T ∧ 0 ≤ x ∧ x < (n : Int) ∧ t < (f x.toNat : Int))) ∧ Hid (VtR w wr m rb ab n beg c f ea (.slice aa q ca) eb (.slice ab' T.length cb))) (fun s9 _ => q - (intOf s9).toNat)
  case atStart => exact ⟨0, Nat.zero_le _, rfl, (fun x hx => by simp at hx), W0.out⟩
  case round =>
    clear W0
    obtain ⟨k, hk, rfl, HK, HV⟩ := hrel
    obtain ⟨d0, d1⟩ := HV.out.a.cells
    obtain ⟨e0, e1⟩ := HV.out.b.cells
    by_cases hlt : k < q
    · obtain ⟨b, off, rfl, hb, hc0⟩ := (ints_cell HII.out).2 k hlt
      have hc := (HV.out.bel.cell (p := ⟨b, off + k, none⟩) hb).trans hc0
      have k1 : (k : Int) < (q : Int) := by omega
      have k0 : (0 : Int) ≤ (k : Int) := by omega
      obtain ⟨x, hx⟩ : ∃ x, x = F.getD k 0 := ⟨_, rfl⟩
      rw [← hx] at hc
      have hkl : k < F.length := by have := HQ.out; omega
      have htk : F.take (k + 1) = F.take k ++ [x] := by rw [hx]; exact take_snoc F k hkl
      have hin : x ∈ F := by rw [hx]; simp [List.getD, hkl]
      have HK1 : Hid (¬ (x ∉ T ∧ 0 ≤ x ∧ x < (n : Int) ∧ t < (f x.toNat : Int)) → ∀ y, y ∈ F.take (k + 1) → ¬ (y ∉ T ∧ 0 ≤ y ∧ y < (n : Int) ∧ t < (f y.toNat : Int))) := fun hz y hy => by
        rw [htk] at hy
        rcases List.mem_append.1 hy with h | h
        · exact HK.out y h
        · rw [List.mem_singleton.1 h]; exact hz
      have HX1 : Hid ((x ∉ T ∧ 0 ≤ x ∧ x < (n : Int) ∧ t < (f x.toNat : Int)) → R = true) := fun hz => by rw [← HR.out]; exact decide_eq_true ⟨x, hin, hz⟩
      have HLT := Lib.hid hlt
      clear hx hc0 hkl htk hin HK hb hlt
      by_cases hxT : x ∈ T
      · have hP0 : plcV T x = (T.idxOf x : Int) := by unfold plcV; rw [if_pos hxT]
        obtain ⟨P, hP⟩ : ∃ P : Nat, P = T.idxOf x := ⟨_, rfl⟩
        rw [← hP] at hP0
        have HC := Lib.hid (HP.out wr x P hP0 HV.out)
        have HZ := Lib.hid (HK1.out fun h => h.1 hxT)
        clear hP0 hP hxT HK1 HX1
        go_wp2_with fail
        refine HC.out.mono ?_
        rintro e w2 ⟨rfl, V2⟩
        go_wp2
        go_roundw
        case rel => exact ⟨k + 1, by have := HLT.out; omega, by go_num, HZ.out, V2.out⟩
        case measure => have := HLT.out; simp [intOf]; omega
      · have hP0 : plcV T x = -1 := by unfold plcV; rw [if_neg hxT]
        have HC := Lib.hid (HP.out wr x (-1) hP0 HV.out)
        have HXT := Lib.hid hxT
        clear hP0 hxT
        by_cases hx0 : 0 ≤ x
        · by_cases hxn : x < (n : Int)
          · obtain ⟨j, rfl⟩ : ∃ j : Nat, x = j := ⟨x.toNat, by omega⟩
            have hjn : j < n := by omega
            have HJ : Hid (∀ u, VtR w u m rb ab n beg c f ea (.slice (some ⟨b, off, none⟩) q ca) eb (.slice ab' T.length cb) → (u.cell? ⟨rb, 0, none⟩ = some (.int .i64 n) ∧ u.cell? ⟨rb, 2, none⟩ = some (.slice (some ⟨ab, 0, none⟩) n c)) ∧ u.cell? ⟨ab, j, none⟩ = some (.int .i64 (f j : Nat))) :=
              fun u hu => ⟨⟨hu.gr.cells.1, hu.gr.cells.2.2⟩, (hu.gr.row.cell hjn).1⟩
            by_cases hf : t < (f j : Int)
            · have HZ := Lib.hid (HX1.out ⟨HXT.out, hx0, hxn, by rw [show ((j : Int)).toNat = j by omega]; exact hf⟩)
              generalize f j = fj at HJ hf
              clear HK1 HX1
              go_wp2_with fail
              refine HC.out.mono ?_
              rintro e w2 ⟨rfl, V2⟩
              obtain ⟨⟨g0, g2⟩, g3⟩ := HJ.out _ V2.out
              go_wp2
              go_returns
              exact ⟨ret_bool HZ.out.symm, V2.out.bel⟩
            · have HZ := Lib.hid (HK1.out fun h => hf (by have := h.2.2.2; rwa [show ((j : Int)).toNat = j by omega] at this))
              generalize f j = fj at HJ hf
              clear HK1 HX1
              go_wp2_with fail
              refine HC.out.mono ?_
              rintro e w2 ⟨rfl, V2⟩
              obtain ⟨⟨g0, g2⟩, g3⟩ := HJ.out _ V2.out
              go_wp2
              go_roundw
              case rel => exact ⟨k + 1, by have := HLT.out; omega, by go_num, HZ.out, V2.out⟩
              case measure => have := HLT.out; simp [intOf]; omega
          · have HZ := Lib.hid (HK1.out fun h => hxn h.2.2.1)
            have HJ : Hid (∀ u, VtR w u m rb ab n beg c f ea (.slice (some ⟨b, off, none⟩) q ca) eb (.slice ab' T.length cb) → u.cell? ⟨rb, 0, none⟩ = some (.int .i64 n)) := fun u hu => hu.gr.cells.1
            clear HK1 HX1
            go_wp2_with fail
            refine HC.out.mono ?_
            rintro e w2 ⟨rfl, V2⟩
            have g0 := HJ.out _ V2.out
            go_wp2
            go_roundw
            case rel => exact ⟨k + 1, by have := HLT.out; omega, by go_num, HZ.out, V2.out⟩
            case measure => have := HLT.out; simp [intOf]; omega
        · have HZ := Lib.hid (HK1.out fun h => hx0 h.2.1)
          clear HK1 HX1
          go_wp2_with fail
          refine HC.out.mono ?_
          rintro e w2 ⟨rfl, V2⟩
          go_wp2
          go_roundw
          case rel => exact ⟨k + 1, by have := HLT.out; omega, by go_num, HZ.out, V2.out⟩
          case measure => have := HLT.out; simp [intOf]; omega
    · have hle : ¬ (k : Int) < (q : Int) := by omega
      have HX : Hid (R = false) := by
        show _ = _
        rw [← HR.out]
        refine decide_eq_false fun ⟨x, hx, hz⟩ => HK.out x ?_ hz
        rw [List.take_of_length_le (by have := HQ.out; omega)]
        exact hx
      go_wp2
      go_returns
      exact ⟨ret_bool HX.out.symm, HV.out.bel⟩
end Go.Proofs.Ytomjlhmkmihbeaa
