/-
  THE LAWS' OWN HELPERS: few, pick, told. Of versions at most a million.
-/
import Derived.Test.YtichojlijhnlpaaChartD
namespace Go.Proofs.Ytichojlijhnlpaa
open Go.RowKit

/-- Does, with the lengths as numbers. -/
def DoesN (L : List VerV) (n : Nat) (l : List Int) (m : Nat) (c r : Int) (d : ByteArray) (w : World) (e : Ending) (w' : World) : Prop :=
  ∃ av ac ao cap, e = .returned (.tuple #[.slice av n ac, .agg #[.int .i64 c, .int .i64 r, .string d, .slice ao m cap]]) ∧ Vers w' w'.heap.size (.slice av n ac) L ∧ Ints w' w'.heap.size (.slice ao m cap) l ∧ Below w.heap.size w w'
def TellsN (l : List Int) (m : Nat) (c r : Int) (d : ByteArray) (w : World) (e : Ending) (w' : World) : Prop :=
  ∃ ao cap, e = .returned (.agg #[.int .i64 c, .int .i64 r, .string d, .slice ao m cap]) ∧ Ints w' w'.heap.size (.slice ao m cap) l ∧ Below w.heap.size w w'
theorem Does.n {L : List VerV} {n : Nat} {l : List Int} {m : Nat} {c r : Int} {d : ByteArray} {w : World} {e : Ending} {w' : World} (h : Does L l c r d w e w') (hn : L.length = n) (hm : l.length = m) : DoesN L n l m c r d w e w' := by
  subst hn hm
  exact h
theorem Tells.n {l : List Int} {m : Nat} {c r : Int} {d : ByteArray} {w : World} {e : Ending} {w' : World} (h : Tells l c r d w e w') (hm : l.length = m) : TellsN l m c r d w e w' := by
  subst hm
  obtain ⟨ao, cap, he, hI, _, hb⟩ := h
  exact ⟨ao, cap, he, hI, hb⟩

theorem do_n (v : Value) (L L' : List VerV) (n : Nat) (B : Nat) (cl sq kd id mt : Int) (dt : ByteArray) (quota c r : Int) (d : ByteArray) (l : List Int) (m : Nat) (HL : Hid (doL L kd mt dt quota = L')) (HR : Hid (doR L kd mt quota = ⟨c, r, d, l⟩)) (hn : L'.length = n) (hm : l.length = m)
    (w : World) (hV : Vers w B v L) (hB : B ≤ w.heap.size) (hl : L.length ≤ 1000000) :
    Calls Try.prog 12 #[v, .agg #[.int .i64 cl, .int .i64 sq, .int .i64 kd, .int .i64 id, .int .i64 mt, .string dt], .int .i64 quota] w (DoesN L' n l m c r d w) :=
  (do_r v L L' B cl sq kd id mt dt quota c r d l HL HR w hV hB hl).mono fun _ _ h => h.n hn hm
theorem ask_n (v : Value) (L : List VerV) (B : Nat) (cl sq kd id mt : Int) (dt : ByteArray) (c r : Int) (d : ByteArray) (l : List Int) (m : Nat) (HR : Hid (askV L kd mt = ⟨c, r, d, l⟩)) (hm : l.length = m) (w : World) (hV : Vers w B v L) (hB : B ≤ w.heap.size) (hl : L.length ≤ 1000000) :
    Calls Try.prog 16 #[v, .agg #[.int .i64 cl, .int .i64 sq, .int .i64 kd, .int .i64 id, .int .i64 mt, .string dt]] w (TellsN l m c r d w) :=
  (ask_r v L B cl sq kd id mt dt c r d l HR w hV hB hl).mono fun _ _ h => h.n hm

def fewV (L : List VerV) (dt : ByteArray) : Prop := L.length ≤ 60 ∧ dt.size ≤ 100 ∧ ∀ x ∈ L, x.data.size ≤ 100
instance (L : List VerV) (dt : ByteArray) : Decidable (fewV L dt) := by unfold fewV; infer_instance

theorem at_mem (L : List VerV) (j : Nat) (h : j < L.length) : at' L j ∈ L := by
  rw [show at' L j = L[j] by simp [at', List.getD, h]]
  exact List.getElem_mem h

set_option maxRecDepth 100000 in
set_option maxHeartbeats 1000000 in
theorem few_big (ao : Option Addr) (n cap : Nat) (cl sq kd id mt : Int) (dt : ByteArray) (hd : dt.size ≤ 9223372036854775807) (w : World) (h : 60 < n ∨ 100 < dt.size) :
    Calls Try.prog 10 #[.slice ao n cap, .agg #[.int .i64 cl, .int .i64 sq, .int .i64 kd, .int .i64 id, .int .i64 mt, .string dt]] w fun e w' => e = .returned (.bool false) ∧ Below w.heap.size w w' := by
  by_cases h1 : 60 < n
  · clear h
    go_enter Try.func10, Try.ntmps10
    go_wp2
    go_returns
    exact ⟨rfl, by go_grown⟩
  · have h2 : 100 < dt.size := by omega
    have h3 : n ≤ 60 := by omega
    clear h h1
    go_enter Try.func10, Try.ntmps10
    go_wp2
    go_returns
    exact ⟨rfl, by go_grown⟩

set_option maxRecDepth 100000 in
set_option maxHeartbeats 2000000 in
theorem few_loop (v : Value) (L : List VerV) (n : Nat) (cl sq kd id mt : Int) (dt : ByteArray) (w : World) (hn : L.length = n) (hV : Vers w w.heap.size v L) (hs : ∀ x ∈ L, x.data.size ≤ maxLen) (h1 : n ≤ 60) (h2 : dt.size ≤ 100) (R : Bool) (HR : Hid (R = decide (∀ x ∈ L, x.data.size ≤ 100))) :
    Calls Try.prog 10 #[v, .agg #[.int .i64 cl, .int .i64 sq, .int .i64 kd, .int .i64 id, .int .i64 mt, .string dt]] w fun e w' => e = .returned (.bool R) ∧ Below w.heap.size w w' := by
  obtain ⟨ao, cap, rfl⟩ := hV.shape
  have HV := Lib.hid hV
  have HS := Lib.hid hs
  rw [hn] at HV ⊢
  have HN := Lib.hid hn
  clear hV hs hn
  go_enter Try.func10, Try.ntmps10
  go_wp2
  go_loopw [5] (fun vi wr => ∃ k : Nat, k ≤ n ∧ vi = .int .i64 k ∧ (∀ x ∈ L.take k, x.data.size ≤ 100) ∧ Below w.heap.size w wr) (fun vi _ => n - (intOf vi).toNat)
  case atStart => exact ⟨0, by omega, rfl, by simp, by go_grown⟩
  case round =>
    obtain ⟨k, hk, rfl, hq, hnx⟩ := hrel
    have HQ := Lib.hid hq
    have HB := Lib.hid hnx
    clear hq
    by_cases hlt : k < n
    · have hkL : k < L.length := by rw [HN.out]; exact hlt
      obtain ⟨b, off, rfl, hb, hc⟩ := HV.out.at (by omega)
      have c1 : wr.cell? ⟨b, off + k * 2 + 1, none⟩ = some (.string (at' L k).data) := (hnx.cell (p := ⟨b, off + k * 2 + 1, none⟩) hb).trans (hc k hkL).2
      have hsz := HS.out _ (at_mem L k hkL)
      unfold maxLen at hsz
      have HT : Hid (L.take (k + 1) = L.take k ++ [at' L k]) := by
        show _ = _
        rw [List.take_succ_eq_append_getElem hkL]
        simp [at', List.getD, hkL]
      have HM := Lib.hid (at_mem L k hkL)
      clear hc hnx hkL
      generalize at' L k = x at c1 hsz HT HM
      obtain ⟨g, d⟩ := x
      simp only at c1 hsz
      by_cases h100 : d.size ≤ 100
      · go_wp2
        go_roundw
        case rel =>
          refine ⟨k + 1, by omega, by go_num, ?_, HB.out⟩
          rw [HT.out]
          intro x hx
          rcases List.mem_append.1 hx with hx | hx
          · exact HQ.out x hx
          · rw [List.mem_singleton.1 hx]; exact h100
        case measure => simp [intOf]; omega
      · have h101 : 100 < d.size := by omega
        have HF : Hid (R = false) := by
          show _ = _
          rw [HR.out]
          exact decide_eq_false fun h => h100 (h _ HM.out)
        clear h100
        go_wp2
        go_returns
        exact ⟨ret_bool HF.out.symm, HB.out⟩
    · have HF : Hid (R = true) := by
        show _ = _
        rw [HR.out]
        refine decide_eq_true ?_
        have := HQ.out
        rwa [List.take_of_length_le (by rw [HN.out]; omega)] at this
      clear hnx
      go_wp2
      go_returns
      exact ⟨ret_bool HF.out.symm, HB.out⟩

theorem few_r (v : Value) (L : List VerV) (cl sq kd id mt : Int) (dt : ByteArray) (hd : dt.size ≤ maxLen) (w : World) (hV : Vers w w.heap.size v L) (hs : ∀ x ∈ L, x.data.size ≤ maxLen) (R : Bool) (HR : Hid (R = decide (fewV L dt))) :
    Calls Try.prog 10 #[v, .agg #[.int .i64 cl, .int .i64 sq, .int .i64 kd, .int .i64 id, .int .i64 mt, .string dt]] w fun e w' => e = .returned (.bool R) ∧ Below w.heap.size w w' := by
  have hr := HR.out
  by_cases h : 60 < L.length ∨ 100 < dt.size
  · obtain rfl : R = false := by rw [hr]; exact decide_eq_false fun hf => by unfold fewV at hf; omega
    obtain ⟨ao, cap, rfl⟩ := hV.shape
    exact few_big ao _ cap cl sq kd id mt dt (by unfold maxLen at hd; omega) w h
  · refine few_loop v L L.length cl sq kd id mt dt w rfl hV hs (by omega) (by omega) R ?_
    show _ = _
    rw [hr]
    refine decide_eq_decide.2 ⟨fun hf => hf.2.2, fun hf => ⟨by omega, by omega, hf⟩⟩

set_option maxHeartbeats 400000 in
theorem pick_del (w : World) : Calls Try.prog 18 #[.int .i64 3] w fun e w' => e = .returned (.string ⟨#[]⟩) ∧ w = w' := by
  go_enter Try.func18, Try.ntmps18
  go_wp2
  go_returns
  exact ⟨rfl, rfl⟩
set_option maxHeartbeats 400000 in
theorem pick_not (k : Int) (w : World) (hk : k ≠ 3) : Calls Try.prog 18 #[.int .i64 k] w fun e w' => e = .returned (.string ⟨#[100]⟩) ∧ w = w' := by
  have b : (k == 3) = false := beq_eq_false_iff_ne.2 hk
  clear hk
  go_enter Try.func18, Try.ntmps18
  go_wp2
  go_returns
  exact ⟨rfl, rfl⟩

def tv1 : List VerV := [⟨false, ⟨#[97]⟩⟩]
def tv2 : List VerV := [⟨false, ⟨#[97]⟩⟩, ⟨true, ⟨#[]⟩⟩]

set_option maxRecDepth 100000 in
set_option maxHeartbeats 4000000 in
theorem told4_any (w : World) : Calls Try.prog 11 #[] w fun e w' => e = .returned (.bool true) ∧ Below w.heap.size w w' := by
  have H1 : Hid (∀ u, Calls Try.prog 12 #[.slice none 0 0, .agg #[.int .i64 0, .int .i64 0, .int .i64 1, .int .i64 0, .int .i64 0, .string ⟨#[97]⟩], .int .i64 5] u (DoesN tv1 1 [] 0 1 1 ⟨#[]⟩ u)) :=
    fun u => do_n _ [] tv1 1 _ 0 0 1 0 0 ⟨#[97]⟩ 5 1 1 ⟨#[]⟩ [] 0 (show _ = _ by decide) (show _ = _ by rfl) rfl rfl u (Vers.none u u.heap.size) (Nat.le_refl _) (by decide)
  have H2 : Hid (∀ v u, Vers u u.heap.size v tv1 → Calls Try.prog 12 #[v, .agg #[.int .i64 0, .int .i64 0, .int .i64 3, .int .i64 0, .int .i64 1, .string ⟨#[]⟩], .int .i64 5] u (DoesN tv2 2 [] 0 1 2 ⟨#[]⟩ u)) :=
    fun v u hv => do_n _ tv1 tv2 2 _ 0 0 3 0 1 ⟨#[]⟩ 5 1 2 ⟨#[]⟩ [] 0 (show _ = _ by decide) (show _ = _ by rfl) rfl rfl u hv (Nat.le_refl _) (by decide)
  have H3 : Hid (∀ v u, Vers u u.heap.size v tv2 → Calls Try.prog 12 #[v, .agg #[.int .i64 0, .int .i64 0, .int .i64 2, .int .i64 0, .int .i64 0, .string ⟨#[]⟩], .int .i64 5] u (DoesN tv2 2 [] 0 3 2 ⟨#[]⟩ u)) :=
    fun v u hv => do_n _ tv2 tv2 2 _ 0 0 2 0 0 ⟨#[]⟩ 5 3 2 ⟨#[]⟩ [] 0 (show _ = _ by decide) (show _ = _ by rfl) rfl rfl u hv (Nat.le_refl _) (by decide)
  have H4 : Hid (∀ v u, Vers u u.heap.size v tv2 → Calls Try.prog 16 #[v, .agg #[.int .i64 0, .int .i64 0, .int .i64 6, .int .i64 0, .int .i64 0, .string ⟨#[]⟩]] u (TellsN [1, -2] 2 1 2 ⟨#[]⟩ u)) :=
    fun v u hv => ask_n _ tv2 _ 0 0 6 0 0 ⟨#[]⟩ 1 2 ⟨#[]⟩ [1, -2] 2 (show _ = _ by rfl) rfl u hv (Nat.le_refl _) (by decide)
  go_enter Try.func11, Try.ntmps11
  go_wp2_with fail
  refine (H1.out _).mono ?_
  rintro e w1 ⟨a1, k1, o1, p1, rfl, V1, _, B1⟩
  have V1' := Lib.hid (V1.on ((Below.refl _ w1).alloc (Nat.le_refl _) (.cells #[.int .i64 1, .int .i64 1, .string ⟨#[]⟩, .slice o1 0 p1] 29)))
  have C1 := Lib.hid B1
  clear V1 B1
  go_wp2_with fail
  refine (H2.out _ _ V1'.out).mono ?_
  rintro e w2 ⟨a2, k2, o2, p2, rfl, V2, _, B2⟩
  have B12 : Below w1.heap.size w1 w2 := ((Below.refl _ w1).alloc (Nat.le_refl _) _).trans (B2.mono (by simp))
  have C2 : Hid (Below w.heap.size w w2) := C1.out.trans (B12.mono C1.out.size)
  have RA2 : Hid (RepAt w2 w1.heap.size 1 1 ⟨#[]⟩ (.slice o1 0 p1)) := RepAt.keep (RepAt.new w1 1 1 ⟨#[]⟩ (.slice o1 0 p1)) B2 (by simp)
  have V2' := Lib.hid (V2.on ((Below.refl _ w2).alloc (Nat.le_refl _) (.cells #[.int .i64 1, .int .i64 2, .string ⟨#[]⟩, .slice o2 0 p2] 29)))
  have V2h := Lib.hid V2
  clear V2 B2 B12 V1' C1
  go_wp2_with fail
  refine (H3.out _ _ V2'.out).mono ?_
  rintro e w3 ⟨a3, k3, o3, p3, rfl, _, _, B3⟩
  have B23 : Below w2.heap.size w2 w3 := ((Below.refl _ w2).alloc (Nat.le_refl _) _).trans (B3.mono (by simp))
  have C3 : Hid (Below w.heap.size w w3) := C2.out.trans (B23.mono C2.out.size)
  have RA3 : Hid (RepAt w3 w1.heap.size 1 1 ⟨#[]⟩ (.slice o1 0 p1)) := RA2.out.keep B23 RA2.out.lt
  have RB3 : Hid (RepAt w3 w2.heap.size 1 2 ⟨#[]⟩ (.slice o2 0 p2)) := RepAt.keep (RepAt.new w2 1 2 ⟨#[]⟩ (.slice o2 0 p2)) B3 (by simp)
  have V3h := Lib.hid (V2h.out.on B23)
  have V3' := Lib.hid (V3h.out.on ((Below.refl _ w3).alloc (Nat.le_refl _) (.cells #[.int .i64 3, .int .i64 2, .string ⟨#[]⟩, .slice o3 0 p3] 29)))
  clear B3 B23 V2' V2h C2 RA2
  go_wp2_with fail
  refine (H4.out _ _ V3'.out).mono ?_
  rintro e w4 ⟨o4, p4, rfl, I4, B4⟩
  have B34 : Below w3.heap.size w3 w4 := ((Below.refl _ w3).alloc (Nat.le_refl _) _).trans (B4.mono (by simp))
  have B45 : Below w4.heap.size w4 (w4.alloc (.cells #[.int .i64 1, .int .i64 2, .string ⟨#[]⟩, .slice o4 2 p4] 29)) := (Below.refl _ w4).alloc (Nat.le_refl _) _
  have C5 : Hid (Below w.heap.size w (w4.alloc (.cells #[.int .i64 1, .int .i64 2, .string ⟨#[]⟩, .slice o4 2 p4] 29))) := (C3.out.trans (B34.mono C3.out.size)).trans (B45.mono (Nat.le_trans C3.out.size B34.size))
  obtain ⟨⟨ra0, ra1, _, _⟩, _⟩ := (((RA3.out.keep B34 RA3.out.lt).keep B45 (RA3.out.keep B34 RA3.out.lt).lt)).cells
  obtain ⟨⟨_, rb1, _, _⟩, _⟩ := (((RB3.out.keep B34 RB3.out.lt).keep B45 (RB3.out.keep B34 RB3.out.lt).lt)).cells
  have RC4 : RepAt w4 w3.heap.size 3 2 ⟨#[]⟩ (.slice o3 0 p3) := RepAt.keep (RepAt.new w3 3 2 ⟨#[]⟩ (.slice o3 0 p3)) B4 (by simp)
  obtain ⟨⟨rc0, _, _, _⟩, _⟩ := (RC4.keep B45 RC4.lt).cells
  obtain ⟨b, off, rfl, _, hc⟩ := ((V3h.out.on B34).on B45).at (by decide)
  have hg := (hc 1 (by decide)).1
  obtain ⟨ao, cap, he, _, _, _, h4⟩ := I4.keep B45
  simp only [Value.slice.injEq] at he
  obtain ⟨rfl, _, rfl⟩ := he
  obtain ⟨b', off', rfl, _, hc'⟩ := h4 (by decide)
  have hx := hc' 1 (by decide)
  have hx' : (w4.alloc (.cells #[.int .i64 1, .int .i64 2, .string ⟨#[]⟩, .slice (some ⟨b', off', none⟩) 2 p4] 29)).cell? ⟨b', off' + 1, none⟩ = some (.int .i64 (-2)) := hx
  have hg' : (w4.alloc (.cells #[.int .i64 1, .int .i64 2, .string ⟨#[]⟩, .slice (some ⟨b', off', none⟩) 2 p4] 29)).cell? ⟨b, off + 2, none⟩ = some (.bool true) := hg
  clear hx hg hc hc' h4 B4 B34 B45 I4 RC4 V3' V3h RA3 RB3 C3 H1 H2 H3 H4
  go_wp2
  go_returns
  exact ⟨rfl, C5.out⟩
end Go.Proofs.Ytichojlijhnlpaa
