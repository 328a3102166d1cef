/-
  THE PROGRAM's STORE: Put and Ask as one contract each; the laws' few and told. No condition but that the store is within its bounds.
-/
import Derived.Test.YticokpaegadbbaaStoreP
import Derived.Test.YticokpaegadbbaaStoreK
import Derived.Test.YticokpaegadbbaaStoreI
namespace Go.Proofs.Yticokpaegadbbaa
open Go.RowKit

/-- The store is within its bounds; at most N requests were put. -/
structure Fit (s : StoV) (N : Nat) : Prop where
  quota : 1 ≤ s.quota ∧ s.quota ≤ 100
  places : 0 ≤ s.places ∧ s.places ≤ N
  res : ∀ i, i < 32 → (s.res i).length ≤ 100 ∧ ∀ v ∈ s.res i, v.data.size ≤ 64
  cl : ∀ c, c < 4 → 0 ≤ (s.cl c).seq ∧ (s.cl c).seq ≤ 1073741824 ∧ 0 ≤ (s.cl c).place ∧ (s.cl c).place ≤ s.places
theorem Fit.new (q : Int) (h1 : 1 ≤ q) (h2 : q ≤ 100) : Fit (newV q) 0 :=
  ⟨⟨h1, h2⟩, ⟨Int.le_refl _, Int.le_refl _⟩, fun _ _ => ⟨Nat.zero_le _, by intro v hv; cases hv⟩, fun _ _ => ⟨Int.le_refl _, by show (0 : Int) ≤ _; omega, Int.le_refl _, Int.le_refl _⟩⟩
theorem Fit.mono {s : StoV} {N M : Nat} (h : Fit s N) (hm : N ≤ M) : Fit s M := ⟨h.quota, ⟨h.places.1, by have := h.places.2; omega⟩, h.res, h.cl⟩

/-- A request that may be and writes. -/
def ReqV.puts (q : ReqV) : Prop := q.may ∧ q.kind ≤ 3
instance (q : ReqV) : Decidable q.puts := by unfold ReqV.puts; infer_instance
/-- What Put makes and tells. -/
structure PutA where
  s : StoV
  code : Int
  ver : Int
  data : ByteArray
  err : Int
def putA (s : StoV) (q : ReqV) : PutA :=
  if ¬ q.puts then ⟨s, 0, 0, ⟨#[]⟩, 1⟩
  else if q.seq ≤ (s.cl q.client.toNat).seq then ⟨s, 0, 0, ⟨#[]⟩, 9⟩
  else ⟨putV s q.client.toNat q.id.toNat q.seq q.kind q.mtch q.data, (doR (s.res q.id.toNat) q.kind q.mtch s.quota).code, (doR (s.res q.id.toNat) q.kind q.mtch s.quota).ver, (doR (s.res q.id.toNat) q.kind q.mtch s.quota).data, 0⟩
theorem putA_bad (s : StoV) (q : ReqV) (h : ¬ q.puts) : putA s q = ⟨s, 0, 0, ⟨#[]⟩, 1⟩ := if_pos h
theorem putA_old (s : StoV) (q : ReqV) (h : q.puts) (h2 : q.seq ≤ (s.cl q.client.toNat).seq) : putA s q = ⟨s, 0, 0, ⟨#[]⟩, 9⟩ := by
  unfold putA; rw [if_neg (fun h' => h' h), if_pos h2]
theorem putA_done (s : StoV) (q : ReqV) (h : q.puts) (h2 : ¬ q.seq ≤ (s.cl q.client.toNat).seq) :
    putA s q = ⟨putV s q.client.toNat q.id.toNat q.seq q.kind q.mtch q.data, (doR (s.res q.id.toNat) q.kind q.mtch s.quota).code, (doR (s.res q.id.toNat) q.kind q.mtch s.quota).ver, (doR (s.res q.id.toNat) q.kind q.mtch s.quota).data, 0⟩ := by
  unfold putA; rw [if_neg (fun h' => h' h), if_neg h2]
theorem putA_nat (s : StoV) (c i : Nat) (sq kd mt : Int) (dt : ByteArray) (h : ReqV.puts ⟨c, sq, kd, i, mt, dt⟩) (h2 : ¬ sq ≤ (s.cl c).seq) :
    putA s ⟨c, sq, kd, i, mt, dt⟩ = ⟨putV s c i sq kd mt dt, (doR (s.res i) kd mt s.quota).code, (doR (s.res i) kd mt s.quota).ver, (doR (s.res i) kd mt s.quota).data, 0⟩ := putA_done s _ h h2
theorem doR_list (L : List VerV) (kd mt quota : Int) (h : wrV kd = true) : (doR L kd mt quota).list = [] := by
  unfold doR; rw [if_pos h]; split <;> rfl
theorem doL_fit (L : List VerV) (kd mt : Int) (dt : ByteArray) (quota : Int) (hq : quota ≤ 100) (hd : dt.size ≤ 64) (hL : L.length ≤ 100 ∧ ∀ v ∈ L, v.data.size ≤ 64) : (doL L kd mt dt quota).length ≤ 100 ∧ ∀ v ∈ doL L kd mt dt quota, v.data.size ≤ 64 := by
  unfold doL
  split
  · rename_i h
    have hv := h.2
    have : (L.length : Int) < quota := by
      unfold verdV at hv
      split at hv
      · omega
      split at hv
      · rename_i h3; exact absurd hv h3.2
      split at hv
      · omega
      split at hv
      · omega
      · omega
    refine ⟨by rw [List.length_append]; simp; omega, fun v hv => ?_⟩
    rcases List.mem_append.1 hv with hv | hv
    · exact hL.2 v hv
    · rw [List.mem_singleton.1 hv]
      unfold makeV
      split
      · exact Nat.zero_le _
      · exact hd
  · exact hL
theorem Fit.put {s : StoV} {N : Nat} (h : Fit s N) (q : ReqV) : Fit (putA s q).s (N + 1) := by
  by_cases hp : q.puts
  · by_cases hs : q.seq ≤ (s.cl q.client.toNat).seq
    · rw [putA_old s q hp hs]; exact h.mono (by omega)
    · rw [putA_done s q hp hs]
      have hm := hp.1
      unfold ReqV.may at hm
      refine ⟨h.quota, ⟨by show 0 ≤ s.places + 1; have := h.places; omega, by show s.places + 1 ≤ _; have := h.places; omega⟩, fun i hi => ?_, fun c hc => ?_⟩
      · show (updF s.res _ _ i).length ≤ 100 ∧ ∀ v ∈ updF s.res _ _ i, _
        by_cases e : i = q.id.toNat
        · subst e
          rw [updF_same]
          exact doL_fit _ _ _ _ _ h.quota.2 hm.2.2.2.2.2.2.2.2.1 (h.res _ hi)
        · rw [updF_other _ _ _ _ e]
          exact h.res i hi
      · show 0 ≤ (updF s.cl _ _ c).seq ∧ (updF s.cl _ _ c).seq ≤ _ ∧ 0 ≤ (updF s.cl _ _ c).place ∧ (updF s.cl _ _ c).place ≤ s.places + 1
        have hpl := h.places
        by_cases e : c = q.client.toNat
        · subst e
          rw [updF_same]
          refine ⟨?_, ?_, ?_, ?_⟩ <;> dsimp only <;> omega
        · rw [updF_other _ _ _ _ e]
          have := h.cl c hc
          omega
  · rw [putA_bad s q hp]; exact h.mono (by omega)

/-- Behind a Put. -/
def PutR (y : Lay) (b : Nat) (s' : StoV) (cd vr : Int) (d : ByteArray) (x : Int) (w : World) (e : Ending) (w' : World) : Prop :=
  ∃ ao cap, e = .returned (.tuple #[.agg #[.int .i64 cd, .int .i64 vr, .string d, .slice ao 0 cap], .int .i64 x]) ∧ Nil0 (.slice ao 0 cap) ∧ Besides b w w' ∧ Sto y w' b s'

theorem Refused.put {y : Lay} {b : Nat} {s : StoV} {x : Int} {w : World} {e : Ending} {w' : World} (h : Refused x w e w') (hs : Sto y w b s) : PutR y b s 0 0 ⟨#[]⟩ x w e w' :=
  ⟨none, 0, h.1, Nil0.none, Besides.of h.2, hs.on h.2⟩

theorem sput_r (b : Nat) (s s' : StoV) (N : Nat) (cl sq kd id mt : Int) (dt : ByteArray) (cd vr : Int) (d : ByteArray) (x : Int) (HP : Hid (putA s ⟨cl, sq, kd, id, mt, dt⟩ = ⟨s', cd, vr, d, x⟩)) (hd : dt.size ≤ maxLen) (hf : Fit s N) (hN : N ≤ 1000000) (w : World) (h : Sto layP w b s) :
    Calls Try.prog 14 #[.pointer (some ⟨b, 0, none⟩), .agg #[.int .i64 cl, .int .i64 sq, .int .i64 kd, .int .i64 id, .int .i64 mt, .string dt]] w (PutR layP b s' cd vr d x w) := by
  have hd' : dt.size ≤ 9223372036854775807 := by unfold maxLen at hd; omega
  have HP' := HP.out
  by_cases hm : ReqV.may ⟨cl, sq, kd, id, mt, dt⟩
  · have HM : Hid (∀ u, Calls Try.prog 29 #[.agg #[.int .i64 cl, .int .i64 sq, .int .i64 kd, .int .i64 id, .int .i64 mt, .string dt]] u fun e w' => e = .returned (.bool true) ∧ Below u.heap.size u w') :=
      fun u => mayreq_r cl sq kd id mt dt hd' true (decide_eq_true hm).symm u
    have hm' := hm
    unfold ReqV.may at hm'
    simp only at hm'
    by_cases hw : kd ≤ 3
    · have HW : Hid (∀ u, Calls Try.prog 30 #[.agg #[.int .i64 cl, .int .i64 sq, .int .i64 kd, .int .i64 id, .int .i64 mt, .string dt]] u fun e w' => e = .returned (.bool true) ∧ Below u.heap.size u w') := by
        intro u
        have h := writes_any cl sq kd id mt dt u
        rwa [decide_eq_true (show 1 ≤ kd ∧ kd ≤ 3 by omega)] at h
      obtain ⟨c, rfl⟩ : ∃ c : Nat, cl = c := ⟨cl.toNat, by omega⟩
      obtain ⟨i, rfl⟩ : ∃ i : Nat, id = i := ⟨id.toNat, by omega⟩
      have hc : c < 4 := by omega
      have hi : i < 32 := by omega
      by_cases ho : sq ≤ (s.cl c).seq
      · rw [putA_old s _ ⟨hm, hw⟩ (by simpa using ho)] at HP'
        obtain ⟨rfl, rfl, rfl, rfl, rfl⟩ := PutA.mk.inj HP'
        refine (sput_old b c s sq kd i mt dt w hc h HM HW (fun u => newer_r c sq kd i mt (s.cl c).seq dt hd' false ?_ u)).mono fun e w' hr => hr.put h
        show _ = _
        rw [decide_eq_true hm, decide_eq_false (by omega)]
        rfl
      · rw [putA_nat s c i sq kd mt dt ⟨hm, hw⟩ ho] at HP'
        obtain ⟨rfl, rfl, rfl, rfl, rfl⟩ := PutA.mk.inj HP'
        have hwr : wrV kd = true := by unfold wrV; simp only [Bool.or_eq_true, beq_iff_eq]; omega
        have hq := hf.places
        have HN : Hid (∀ u, Calls Try.prog 31 #[.agg #[.int .i64 c, .int .i64 sq, .int .i64 kd, .int .i64 i, .int .i64 mt, .string dt], .int .i64 (s.cl c).seq] u fun e w' => e = .returned (.bool true) ∧ Below u.heap.size u w') := by
          intro u
          refine newer_r c sq kd i mt (s.cl c).seq dt hd' true ?_ u
          show _ = _
          rw [decide_eq_true hm, decide_eq_true (by omega)]
          rfl
        have HY : Hid (∀ u, Calls Try.prog 32 #[.agg #[.int .i64 c, .int .i64 sq, .int .i64 kd, .int .i64 i, .int .i64 mt, .string dt]] u fun e w' => e = .returned (.int .i64 i) ∧ Below u.heap.size u w') :=
          fun u => key_r c sq kd i mt dt hd' i (show _ = _ from (if_pos hm).symm) u
        have HR : doR (s.res i) kd mt s.quota = ⟨(doR (s.res i) kd mt s.quota).code, (doR (s.res i) kd mt s.quota).ver, (doR (s.res i) kd mt s.quota).data, []⟩ := by
          rw [← doR_list (s.res i) kd mt s.quota hwr]
        exact sput_done b c i s sq kd mt dt (doL (s.res i) kd mt dt s.quota) (doL (s.res i) kd mt dt s.quota).length _ _ _ w hc hi h hq.1 (by omega) HM HW HN HY
          (fun u v hv => do_n v (s.res i) _ _ _ c sq kd i mt dt s.quota _ _ _ [] 0 (show _ = _ from rfl) (show _ = _ from HR) rfl rfl u hv (Nat.le_refl _) (by have := (hf.res i hi).1; omega))
    · have HW : Hid (∀ u, Calls Try.prog 30 #[.agg #[.int .i64 cl, .int .i64 sq, .int .i64 kd, .int .i64 id, .int .i64 mt, .string dt]] u fun e w' => e = .returned (.bool false) ∧ Below u.heap.size u w') := by
        intro u
        have h := writes_any cl sq kd id mt dt u
        rwa [decide_eq_false (show ¬ (1 ≤ kd ∧ kd ≤ 3) by omega)] at h
      rw [putA_bad s _ (fun hp => hw hp.2)] at HP'
      obtain ⟨rfl, rfl, rfl, rfl, rfl⟩ := PutA.mk.inj HP'
      exact (sput_bad2 b cl sq kd id mt dt w HM HW).mono fun e w' hr => hr.put h
  · have HM : Hid (∀ u, Calls Try.prog 29 #[.agg #[.int .i64 cl, .int .i64 sq, .int .i64 kd, .int .i64 id, .int .i64 mt, .string dt]] u fun e w' => e = .returned (.bool false) ∧ Below u.heap.size u w') :=
      fun u => mayreq_r cl sq kd id mt dt hd' false (decide_eq_false hm).symm u
    rw [putA_bad s _ (fun hp => hm hp.1)] at HP'
    obtain ⟨rfl, rfl, rfl, rfl, rfl⟩ := PutA.mk.inj HP'
    exact (sput_bad1 b cl sq kd id mt dt w HM).mono fun e w' hr => hr.put h
end Go.Proofs.Yticokpaegadbbaa
