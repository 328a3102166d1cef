/-
  THE REFERENCE's Do makes and tells what the program's does; of versions at most a million.
-/
import Derived.Test.YtenjjgghoacboaaChartJ
import Derived.Test.YtenjjgghoacboaaChartM
namespace Go.Proofs.Ytenjjgghoacboaa
open Go.RowKit

/-- What the reference's Do makes and tells. -/
theorem refdo_r (v : Value) (L L' : List VerV) (B : Nat) (cl sq kd id mt : Int) (dt : ByteArray) (quota c r : Int) (d : ByteArray) (l : List Int) (HL : Hid (doL L kd mt dt quota = L')) (HR : Hid (doR L kd mt quota = ⟨c, r, d, l⟩)) (w : World) (hV : Vers w B v L) (hB : B ≤ w.heap.size) (hl : L.length ≤ 1000000) :
    Calls Try.prog 113 #[v, .agg #[.int .i64 cl, .int .i64 sq, .int .i64 kd, .int .i64 id, .int .i64 mt, .string dt], .int .i64 quota] w (Does L' l c r d w) := by
  obtain ⟨ao, cap, rfl⟩ := hV.shape
  have HV : Hid (∀ u, Below w.heap.size w u → Vers u w.heap.size (.slice ao L.length cap) L) := fun u hu => (hV.mono hB).keep hu
  by_cases hw : wrV kd = true
  case neg =>
    have hf : wrV kd = false := by simpa using hw
    have h1 := HL.out
    have h2 := HR.out
    unfold doL at h1
    unfold doR at h2
    rw [if_neg (fun h => hw h.1)] at h1
    rw [if_neg hw] at h2
    subst h1
    exact rask ao L.length cap L cl sq kd id mt dt quota c r d l w rfl hl HV (show ∀ u, _ from fun u => refwrites_r cl sq kd id mt dt false (show _ = _ by rw [wr_both, hf]) u)
      (show ∀ u, _ from fun u hu => refask_r _ L w.heap.size cl sq kd id mt dt c r d l h2 u (HV.out u hu) hu.size hl)
  have HW : Hid (∀ u, Calls Try.prog 83 #[.agg #[.int .i64 cl, .int .i64 sq, .int .i64 kd, .int .i64 id, .int .i64 mt, .string dt]] u fun e w' => e = .returned (.bool true) ∧ Below u.heap.size u w') :=
    fun u => refwrites_r cl sq kd id mt dt true (show _ = _ by rw [wr_both, hw]) u
  have no : ∀ x, verdV L kd mt quota = x → x ≠ 1 → Calls Try.prog 113 #[.slice ao L.length cap, .agg #[.int .i64 cl, .int .i64 sq, .int .i64 kd, .int .i64 id, .int .i64 mt, .string dt], .int .i64 quota] w (Does L [] x L.length ⟨#[]⟩ w) →
      Calls Try.prog 113 #[.slice ao L.length cap, .agg #[.int .i64 cl, .int .i64 sq, .int .i64 kd, .int .i64 id, .int .i64 mt, .string dt], .int .i64 quota] w (Does L' l c r d w) := by
    intro x hx hne hcall
    have h := do_none L kd mt dt quota x hw hx hne
    rw [HL.out, HR.out] at h
    obtain ⟨rfl, h2⟩ := h
    obtain ⟨rfl, rfl, rfl, rfl⟩ : c = x ∧ r = L'.length ∧ d = ⟨#[]⟩ ∧ l = [] := by simpa using h2
    exact hcall
  have yes : verdV L kd mt quota = 1 → ∀ g dd, makeV kd dt = ⟨g, dd⟩ → Calls Try.prog 113 #[.slice ao L.length cap, .agg #[.int .i64 cl, .int .i64 sq, .int .i64 kd, .int .i64 id, .int .i64 mt, .string dt], .int .i64 quota] w (Does (L ++ [⟨g, dd⟩]) [] 1 (L.length + 1) ⟨#[]⟩ w) →
      Calls Try.prog 113 #[.slice ao L.length cap, .agg #[.int .i64 cl, .int .i64 sq, .int .i64 kd, .int .i64 id, .int .i64 mt, .string dt], .int .i64 quota] w (Does L' l c r d w) := by
    intro hx g dd hm hcall
    have h := do_one L kd mt dt quota hw hx
    rw [HL.out, HR.out, hm] at h
    obtain ⟨rfl, h2⟩ := h
    obtain ⟨rfl, rfl, rfl, rfl⟩ : c = 1 ∧ r = L.length + 1 ∧ d = ⟨#[]⟩ ∧ l = [] := by simpa using h2
    exact hcall
  have hkd : kd = 1 ∨ kd = 2 ∨ kd = 3 := by simpa [wrV, or_assoc] using hw
  by_cases h0 : L.length = 0
  · obtain rfl : L = [] := List.eq_nil_of_length_eq_zero h0
    have hv := verd_if [] kd mt quota 2 rfl
    rw [if_neg (by omega)] at hv
    by_cases h1 : kd = 1
    · subst h1
      rw [if_neg (by omega)] at hv
      unfold restV at hv
      by_cases hm : mt = 0
      · subst hm
        rw [if_neg (by omega)] at hv
        by_cases hq : quota ≤ (([] : List VerV).length : Int)
        · rw [if_pos hq] at hv
          exact no 6 hv (by omega) (rn_a6 ao cap cl sq id dt quota w hq HV HW)
        · rw [if_neg hq] at hv
          exact yes hv false dt rfl (rd_a ao cap cl sq id dt quota w (by omega) HV HW)
      · rw [if_pos ⟨hm, hm⟩] at hv
        exact no 5 hv (by omega) (rn_a5 ao cap cl sq id mt dt quota w hm HV HW)
    · rw [if_pos ⟨h1, by omega⟩] at hv
      exact no 2 hv (by omega) (rn_o2 ao cap cl sq kd id mt dt quota w h1 HV HW)
  · obtain ⟨b, off, rfl, hb, hc⟩ := hV.at (by omega)
    have hcell := (hc (L.length - 1) (by omega)).1
    have HG : ∀ x, (at' L (L.length - 1)).gone = x → Hid (∀ u, Below w.heap.size w u → u.cell? ⟨b, off + (L.length - 1) * 2, none⟩ = some (.bool x)) := by
      intro x hx u hu
      rw [← hx, ← hcell]
      exact hu.cell (p := ⟨b, off + (L.length - 1) * 2, none⟩) (show b < w.heap.size by omega)
    by_cases hg : (at' L (L.length - 1)).gone = true
    · have hv := verd_if L kd mt quota 3 (by rw [if_neg h0, if_pos hg])
      rw [if_neg (by omega)] at hv
      by_cases h1 : kd = 1
      · subst h1
        rw [if_neg (by omega)] at hv
        unfold restV at hv
        by_cases hm : mt = 0
        · subst hm
          rw [if_neg (by omega)] at hv
          by_cases hq : quota ≤ (L.length : Int)
          · rw [if_pos hq] at hv
            exact no 6 hv (by omega) (rn_b6 b off _ cap L cl sq id dt quota w hq rfl (by omega) hl HV (HG _ hg) HW)
          · rw [if_neg hq] at hv
            exact yes hv false dt rfl (rd_b0 b off _ cap L cl sq id dt quota w (by omega) rfl (by omega) hl HV (HG _ hg) HW)
        · by_cases hm2 : mt = L.length
          · subst hm2
            rw [if_neg (by omega)] at hv
            by_cases hq : quota ≤ (L.length : Int)
            · rw [if_pos hq] at hv
              exact no 6 hv (by omega) (rn_b7 b off _ cap L cl sq id dt quota w hq rfl (by omega) hl HV (HG _ hg) HW)
            · rw [if_neg hq] at hv
              exact yes hv false dt rfl (rd_b1 b off _ cap L cl sq id dt quota w (by omega) rfl (by omega) hl HV (HG _ hg) HW)
          · rw [if_pos ⟨hm, hm2⟩] at hv
            exact no 5 hv (by omega) (rn_b5 b off _ cap L cl sq id mt dt quota w hm hm2 rfl (by omega) hl HV (HG _ hg) HW)
      · rw [if_pos ⟨h1, by omega⟩] at hv
        exact no 3 hv (by omega) (rn_o3 b off _ cap L cl sq kd id mt dt quota w h1 rfl (by omega) hl HV (HG _ hg) HW)
    · have hgf : (at' L (L.length - 1)).gone = false := by simpa using hg
      have hv := verd_if L kd mt quota 1 (by rw [if_neg h0, if_neg hg])
      by_cases h1 : kd = 1
      · subst h1
        rw [if_pos ⟨rfl, rfl⟩] at hv
        exact no 4 hv (by omega) (rn_o4 b off _ cap L cl sq id mt dt quota w rfl (by omega) hl HV (HG _ hgf) HW)
      · rw [if_neg (fun h => h1 h.1), if_neg (fun h => h.2 rfl)] at hv
        unfold restV at hv
        by_cases hm : mt = 0
        · subst hm
          rw [if_neg (by omega)] at hv
          by_cases hq : quota ≤ (L.length : Int)
          · rw [if_pos hq] at hv
            exact no 6 hv (by omega) (rn_c6 b off _ cap L cl sq kd id dt quota w hq h1 rfl (by omega) hl HV (HG _ hgf) HW)
          · rw [if_neg hq] at hv
            rcases hkd with h | rfl | rfl
            · exact absurd h h1
            · exact yes hv false dt rfl (rd_c0 b off _ cap L cl sq id dt quota w (by omega) rfl (by omega) hl HV (HG _ hgf) HW)
            · exact yes hv true ⟨#[]⟩ rfl (rd_d0 b off _ cap L cl sq id dt quota w (by omega) rfl (by omega) hl HV (HG _ hgf) HW)
        · by_cases hm2 : mt = L.length
          · subst hm2
            rw [if_neg (by omega)] at hv
            by_cases hq : quota ≤ (L.length : Int)
            · rw [if_pos hq] at hv
              exact no 6 hv (by omega) (rn_c7 b off _ cap L cl sq kd id dt quota w hq h1 rfl (by omega) hl HV (HG _ hgf) HW)
            · rw [if_neg hq] at hv
              rcases hkd with h | rfl | rfl
              · exact absurd h h1
              · exact yes hv false dt rfl (rd_c1 b off _ cap L cl sq id dt quota w (by omega) rfl (by omega) hl HV (HG _ hgf) HW)
              · exact yes hv true ⟨#[]⟩ rfl (rd_d1 b off _ cap L cl sq id dt quota w (by omega) rfl (by omega) hl HV (HG _ hgf) HW)
          · rw [if_pos ⟨hm, hm2⟩] at hv
            exact no 5 hv (by omega) (rn_c5 b off _ cap L cl sq kd id mt dt quota w h1 hm hm2 rfl (by omega) hl HV (HG _ hgf) HW)
end Go.Proofs.Ytenjjgghoacboaa
