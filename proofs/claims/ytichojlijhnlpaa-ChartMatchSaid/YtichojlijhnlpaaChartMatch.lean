/-
  PROVED: casebooklaw4.ChartMatch answers true and leaves its arguments as they were, for any versions, any number, either kind: the row's own reading and nothing else is assumed.
-/
import Derived.Test.YtichojlijhnlpaaChartArgs
import Derived.Test.YtichojlijhnlpaaChartM
namespace Go.Proofs.Ytichojlijhnlpaa.ChartMatch
open Go.ChangeShapes Go.WideShapes Go.ChangeAt Go.RowKit

theorem mod62 (p : Int) : ∃ k : Nat, k < 62 ∧ (IntKind.u64.wrap p).tmod 62 = (k : Int) := by
  have hu : 0 ≤ IntKind.u64.wrap p := by simp [IntKind.wrap, IntKind.bits, IntKind.signed]; omega
  refine ⟨((IntKind.u64.wrap p).tmod 62).toNat, ?_, ?_⟩
  · rw [Int.tmod_eq_emod_of_nonneg hu]; omega
  · rw [Int.tmod_eq_emod_of_nonneg hu]; omega

theorem here (L : List VerV) (h0 : L.length ≠ 0) (hg : (at' L (L.length - 1)).gone = false) (kd mt : Int) (hk : kd ≠ 1) : verdV L kd mt 100 = restV L.length mt 100 := by
  rw [verd_if L kd mt 100 1 (by rw [if_neg h0, hg]; rfl), if_neg (fun h => hk h.1), if_neg (fun h => h.2 rfl)]

/-- How many versions there are behind it, and what is told. -/
def newL (L : List VerV) (kd : Int) (k : Nat) (dt : ByteArray) : List VerV := if k = 0 ∨ k = L.length then L ++ [makeV kd dt] else L
theorem newL_yes (L : List VerV) (h0 : L.length ≠ 0) (h60 : L.length ≤ 60) (hg : (at' L (L.length - 1)).gone = false) (kd : Int) (hk : kd = 2 ∨ kd = 3) (k : Nat) (dt : ByteArray) (hm : k = 0 ∨ k = L.length) :
    doL L kd k dt 100 = L ++ [makeV kd dt] ∧ doR L kd k 100 = ⟨1, L.length + 1, ⟨#[]⟩, []⟩ := by
  refine do_one L kd k dt 100 (by rcases hk with rfl | rfl <;> rfl) ?_
  rw [here L h0 hg kd k (by omega)]
  unfold restV
  rw [if_neg (by omega), if_neg (by omega)]
theorem newL_no (L : List VerV) (h0 : L.length ≠ 0) (hg : (at' L (L.length - 1)).gone = false) (kd : Int) (hk : kd = 2 ∨ kd = 3) (k : Nat) (dt : ByteArray) (h1 : k ≠ 0) (h2 : k ≠ L.length) :
    doL L kd k dt 100 = L ∧ doR L kd k 100 = ⟨5, L.length, ⟨#[]⟩, []⟩ := by
  refine do_none L kd k dt 100 5 (by rcases hk with rfl | rfl <;> rfl) ?_ (by omega)
  rw [here L h0 hg kd k (by omega)]
  unfold restV
  rw [if_pos ⟨by omega, by omega⟩]

set_option maxRecDepth 100000 in
set_option maxHeartbeats 1000000 in
theorem notfew (ao : Option Addr) (n cap : Nat) (p : Int) (del : Bool) (w : World)
    (HF : Hid (∀ u, Below w.heap.size w u → Calls Try.prog 10 #[.slice ao n cap, .agg #[.int .i64 0, .int .i64 0, .int .i64 0, .int .i64 0, .int .i64 0, .string ⟨#[]⟩]] u fun e w' => e = .returned (.bool false) ∧ Below u.heap.size u w')) :
    Calls Try.prog 6 #[.slice ao n cap, .int .i64 p, .bool del] w fun e w' => e = .returned (.bool true) ∧ Below w.heap.size w w' := by
  have HT := Lib.hid (fun u => told4_any u)
  go_enter Try.func6, Try.ntmps6
  go_wp2_with fail
  refine (HF.out _ (Below.refl _ _)).mono ?_
  rintro e w1 ⟨rfl, B1⟩
  have C1 := Lib.hid B1
  clear B1
  go_wp2_with fail
  refine (HT.out _).mono ?_
  rintro e w2 ⟨rfl, B2⟩
  have C2 := Lib.hid (C1.out.trans (B2.mono C1.out.size))
  clear B2
  go_wp2
  go_returns
  exact ⟨rfl, C2.out⟩

set_option maxRecDepth 100000 in
set_option maxHeartbeats 1000000 in
theorem noneL (ao : Option Addr) (cap : Nat) (p : Int) (del : Bool) (w : World)
    (HF : Hid (∀ u, Below w.heap.size w u → Calls Try.prog 10 #[.slice ao 0 cap, .agg #[.int .i64 0, .int .i64 0, .int .i64 0, .int .i64 0, .int .i64 0, .string ⟨#[]⟩]] u fun e w' => e = .returned (.bool true) ∧ Below u.heap.size u w')) :
    Calls Try.prog 6 #[.slice ao 0 cap, .int .i64 p, .bool del] w fun e w' => e = .returned (.bool true) ∧ Below w.heap.size w w' := by
  have HT := Lib.hid (fun u => told4_any u)
  go_enter Try.func6, Try.ntmps6
  go_wp2_with fail
  refine (HF.out _ (Below.refl _ _)).mono ?_
  rintro e w1 ⟨rfl, B1⟩
  have C1 := Lib.hid B1
  clear B1
  go_wp2_with fail
  refine (HT.out _).mono ?_
  rintro e w2 ⟨rfl, B2⟩
  have C2 := Lib.hid (C1.out.trans (B2.mono C1.out.size))
  clear B2
  go_wp2
  go_returns
  exact ⟨rfl, C2.out⟩

set_option maxRecDepth 100000 in
set_option maxHeartbeats 1000000 in
theorem gone (b off n cap : Nat) (p : Int) (del : Bool) (w : World) (h1 : 1 ≤ n) (h60 : n ≤ 60)
    (HF : Hid (∀ u, Below w.heap.size w u → Calls Try.prog 10 #[.slice (some ⟨b, off, Option.none⟩) n cap, .agg #[.int .i64 0, .int .i64 0, .int .i64 0, .int .i64 0, .int .i64 0, .string ⟨#[]⟩]] u fun e w' => e = .returned (.bool true) ∧ Below u.heap.size u w'))
    (HG : Hid (∀ u, Below w.heap.size w u → u.cell? ⟨b, off + (n - 1) * 2, Option.none⟩ = some (.bool true))) :
    Calls Try.prog 6 #[.slice (some ⟨b, off, Option.none⟩) n cap, .int .i64 p, .bool del] w fun e w' => e = .returned (.bool true) ∧ Below w.heap.size w w' := by
  have HT := Lib.hid (fun u => told4_any u)
  have e0 : ((n : Int) == 0) = false := by rw [beq_eq_false_iff_ne]; omega
  go_enter Try.func6, Try.ntmps6
  go_wp2_with fail
  refine (HF.out _ (Below.refl _ _)).mono ?_
  rintro e w1 ⟨rfl, B1⟩
  have C1 := Lib.hid B1
  have g0 := HG.out _ B1
  clear B1
  go_wp2_with fail
  refine (HT.out _).mono ?_
  rintro e w2 ⟨rfl, B2⟩
  have C2 := Lib.hid (C1.out.trans (B2.mono C1.out.size))
  clear B2 g0
  go_wp2
  go_returns
  exact ⟨rfl, C2.out⟩

set_option maxRecDepth 100000 in
set_option maxHeartbeats 1000000 in
theorem zero (b off n cap : Nat) (L' : List VerV) (p : Int) (del : Bool) (kd : Int) (dt : ByteArray) (hdel : (del = true ∧ kd = 3 ∧ dt = ⟨#[]⟩) ∨ (del = false ∧ kd = 2 ∧ dt = ⟨#[122]⟩)) (w : World) (h1 : 1 ≤ n) (h60 : n ≤ 60)
    (hp : (IntKind.u64.wrap p).tmod 62 = 0)
    (HF : Hid (∀ u, Below w.heap.size w u → Calls Try.prog 10 #[.slice (some ⟨b, off, Option.none⟩) n cap, .agg #[.int .i64 0, .int .i64 0, .int .i64 0, .int .i64 0, .int .i64 0, .string ⟨#[]⟩]] u fun e w' => e = .returned (.bool true) ∧ Below u.heap.size u w'))
    (HG : Hid (∀ u, Below w.heap.size w u → u.cell? ⟨b, off + (n - 1) * 2, Option.none⟩ = some (.bool false)))
    (HD : Hid (∀ u, Below w.heap.size w u → Calls Try.prog 12 #[.slice (some ⟨b, off, Option.none⟩) n cap, .agg #[.int .i64 0, .int .i64 0, .int .i64 kd, .int .i64 0, .int .i64 0, .string dt], .int .i64 100] u (DoesN L' (n + 1) [] 0 1 (n + 1) ⟨#[]⟩ u))) :
    Calls Try.prog 6 #[.slice (some ⟨b, off, Option.none⟩) n cap, .int .i64 p, .bool del] w fun e w' => e = .returned (.bool true) ∧ Below w.heap.size w w' := by
  have HT := Lib.hid (fun u => told4_any u)
  have e0 : ((n : Int) == 0) = false := by rw [beq_eq_false_iff_ne]; omega
  rcases hdel with ⟨rfl, rfl, rfl⟩ | ⟨rfl, rfl, rfl⟩
  all_goals
    go_enter Try.func6, Try.ntmps6
    go_wp2_with fail
    refine (HF.out _ (Below.refl _ _)).mono ?_
    rintro e w1 ⟨rfl, B1⟩
    have C1 := Lib.hid B1
    have g0 := HG.out _ B1
    clear B1
    go_wp2_with fail
    refine (HD.out _ (C1.out.alloc C1.out.size _)).mono ?_
    rintro e w2 ⟨a2, k2, o2, p2, rfl, V2, _, B2⟩
    have C2 : Hid (Below w.heap.size w w2) := (C1.out.alloc C1.out.size _).trans (B2.mono (C1.out.alloc C1.out.size _).size)
    clear B2 V2 g0
    go_wp2_with fail
    refine (HT.out _).mono ?_
    rintro e w3 ⟨rfl, B3⟩
    have C3 : Hid (Below w.heap.size w w3) := (C2.out.alloc C2.out.size _).trans (B3.mono (C2.out.alloc C2.out.size _).size)
    obtain ⟨⟨r0, r1, r2, r3⟩, _⟩ := (RepAt.keep (RepAt.new w2 1 (n + 1) ⟨#[]⟩ (.slice o2 0 p2)) B3 (by simp)).cells
    clear B3
    go_wp2
    go_returns
    exact ⟨rfl, C3.out⟩

set_option maxRecDepth 100000 in
set_option maxHeartbeats 1000000 in
theorem last (b off n cap : Nat) (L' : List VerV) (p : Int) (del : Bool) (kd : Int) (dt : ByteArray) (hdel : (del = true ∧ kd = 3 ∧ dt = ⟨#[]⟩) ∨ (del = false ∧ kd = 2 ∧ dt = ⟨#[122]⟩)) (w : World) (h1 : 1 ≤ n) (h60 : n ≤ 60)
    (hp : (IntKind.u64.wrap p).tmod 62 = (n : Int))
    (HF : Hid (∀ u, Below w.heap.size w u → Calls Try.prog 10 #[.slice (some ⟨b, off, Option.none⟩) n cap, .agg #[.int .i64 0, .int .i64 0, .int .i64 0, .int .i64 0, .int .i64 0, .string ⟨#[]⟩]] u fun e w' => e = .returned (.bool true) ∧ Below u.heap.size u w'))
    (HG : Hid (∀ u, Below w.heap.size w u → u.cell? ⟨b, off + (n - 1) * 2, Option.none⟩ = some (.bool false)))
    (HD : Hid (∀ u, Below w.heap.size w u → Calls Try.prog 12 #[.slice (some ⟨b, off, Option.none⟩) n cap, .agg #[.int .i64 0, .int .i64 0, .int .i64 kd, .int .i64 0, .int .i64 (n : Int), .string dt], .int .i64 100] u (DoesN L' (n + 1) [] 0 1 (n + 1) ⟨#[]⟩ u))) :
    Calls Try.prog 6 #[.slice (some ⟨b, off, Option.none⟩) n cap, .int .i64 p, .bool del] w fun e w' => e = .returned (.bool true) ∧ Below w.heap.size w w' := by
  have HT := Lib.hid (fun u => told4_any u)
  have e0 : ((n : Int) == 0) = false := by rw [beq_eq_false_iff_ne]; omega
  rcases hdel with ⟨rfl, rfl, rfl⟩ | ⟨rfl, rfl, rfl⟩
  all_goals
    go_enter Try.func6, Try.ntmps6
    go_wp2_with fail
    refine (HF.out _ (Below.refl _ _)).mono ?_
    rintro e w1 ⟨rfl, B1⟩
    have C1 := Lib.hid B1
    have g0 := HG.out _ B1
    clear B1
    go_wp2_with fail
    refine (HD.out _ (C1.out.alloc C1.out.size _)).mono ?_
    rintro e w2 ⟨a2, k2, o2, p2, rfl, V2, _, B2⟩
    have C2 : Hid (Below w.heap.size w w2) := (C1.out.alloc C1.out.size _).trans (B2.mono (C1.out.alloc C1.out.size _).size)
    clear B2 V2 g0
    go_wp2_with fail
    refine (HT.out _).mono ?_
    rintro e w3 ⟨rfl, B3⟩
    have C3 : Hid (Below w.heap.size w w3) := (C2.out.alloc C2.out.size _).trans (B3.mono (C2.out.alloc C2.out.size _).size)
    obtain ⟨⟨r0, r1, r2, r3⟩, _⟩ := (RepAt.keep (RepAt.new w2 1 (n + 1) ⟨#[]⟩ (.slice o2 0 p2)) B3 (by simp)).cells
    clear B3
    go_wp2
    go_returns
    exact ⟨rfl, C3.out⟩

set_option maxRecDepth 100000 in
set_option maxHeartbeats 1000000 in
theorem other (b off n cap : Nat) (k : Nat) (L' : List VerV) (p : Int) (del : Bool) (kd : Int) (dt : ByteArray) (hdel : (del = true ∧ kd = 3 ∧ dt = ⟨#[]⟩) ∨ (del = false ∧ kd = 2 ∧ dt = ⟨#[122]⟩)) (w : World) (h1 : 1 ≤ n) (h60 : n ≤ 60) (hk62 : k < 62) (hk0 : k ≠ 0) (hkn : k ≠ n)
    (hp : (IntKind.u64.wrap p).tmod 62 = (k : Int))
    (HF : Hid (∀ u, Below w.heap.size w u → Calls Try.prog 10 #[.slice (some ⟨b, off, Option.none⟩) n cap, .agg #[.int .i64 0, .int .i64 0, .int .i64 0, .int .i64 0, .int .i64 0, .string ⟨#[]⟩]] u fun e w' => e = .returned (.bool true) ∧ Below u.heap.size u w'))
    (HG : Hid (∀ u, Below w.heap.size w u → u.cell? ⟨b, off + (n - 1) * 2, Option.none⟩ = some (.bool false)))
    (HD : Hid (∀ u, Below w.heap.size w u → Calls Try.prog 12 #[.slice (some ⟨b, off, Option.none⟩) n cap, .agg #[.int .i64 0, .int .i64 0, .int .i64 kd, .int .i64 0, .int .i64 (k : Int), .string dt], .int .i64 100] u (DoesN L' n [] 0 5 n ⟨#[]⟩ u))) :
    Calls Try.prog 6 #[.slice (some ⟨b, off, Option.none⟩) n cap, .int .i64 p, .bool del] w fun e w' => e = .returned (.bool true) ∧ Below w.heap.size w w' := by
  have HT := Lib.hid (fun u => told4_any u)
  have e0 : ((n : Int) == 0) = false := by rw [beq_eq_false_iff_ne]; omega
  have k0 : ((k : Int) == 0) = false := by rw [beq_eq_false_iff_ne]; omega
  have kn : ((k : Int) == (n : Int)) = false := by rw [beq_eq_false_iff_ne]; omega
  have kp : (0 : Int) ≤ (k : Int) := by omega
  clear hk0 hkn
  rcases hdel with ⟨rfl, rfl, rfl⟩ | ⟨rfl, rfl, rfl⟩
  all_goals
    go_enter Try.func6, Try.ntmps6
    go_wp2_with fail
    refine (HF.out _ (Below.refl _ _)).mono ?_
    rintro e w1 ⟨rfl, B1⟩
    have C1 := Lib.hid B1
    have g0 := HG.out _ B1
    clear B1
    go_wp2_with fail
    refine (HD.out _ (C1.out.alloc C1.out.size _)).mono ?_
    rintro e w2 ⟨a2, k2, o2, p2, rfl, V2, _, B2⟩
    have C2 : Hid (Below w.heap.size w w2) := (C1.out.alloc C1.out.size _).trans (B2.mono (C1.out.alloc C1.out.size _).size)
    clear B2 V2 g0
    go_wp2_with fail
    refine (HT.out _).mono ?_
    rintro e w3 ⟨rfl, B3⟩
    have C3 : Hid (Below w.heap.size w w3) := (C2.out.alloc C2.out.size _).trans (B3.mono (C2.out.alloc C2.out.size _).size)
    obtain ⟨⟨r0, r1, r2, r3⟩, _⟩ := (RepAt.keep (RepAt.new w2 5 n ⟨#[]⟩ (.slice o2 0 p2)) B3 (by simp)).cells
    clear B3
    go_wp2
    go_returns
    exact ⟨rfl, C3.out⟩

theorem walk (v : Value) (L : List VerV) (p : Int) (del : Bool) (w : World) (hV : Vers w w.heap.size v L ∧ ∀ x ∈ L, x.data.size ≤ maxLen) (_ : (Lit.int .i64 p).wf = true) :
    Calls Try.prog 6 #[v, .int .i64 p, .bool del] w fun e w' => e = .returned (.bool true) ∧ Below w.heap.size w w' := by
  obtain ⟨hV, hs⟩ := hV
  obtain ⟨ao, cap, rfl⟩ := hV.shape
  have HF : ∀ R, R = decide (fewV L ⟨#[]⟩) → Hid (∀ u, Below w.heap.size w u → Calls Try.prog 10 #[.slice ao L.length cap, .agg #[.int .i64 0, .int .i64 0, .int .i64 0, .int .i64 0, .int .i64 0, .string ⟨#[]⟩]] u fun e w' => e = .returned (.bool R) ∧ Below u.heap.size u w') :=
    fun R hR u hu => few_r _ L 0 0 0 0 0 ⟨#[]⟩ (by decide) u (hV.on hu) hs R hR
  by_cases hf : fewV L ⟨#[]⟩
  case neg => exact notfew ao _ cap p del w (HF false (decide_eq_false hf).symm)
  have h60 := hf.1
  by_cases h0 : L.length = 0
  · rw [h0] at HF ⊢
    exact noneL ao cap p del w (HF true (decide_eq_true hf).symm)
  obtain ⟨b, off, rfl, hb, hc⟩ := hV.at (by omega)
  have hcell := (hc (L.length - 1) (by omega)).1
  have HG : ∀ x, (at' L (L.length - 1)).gone = x → Hid (∀ u, Below w.heap.size w u → u.cell? ⟨b, off + (L.length - 1) * 2, Option.none⟩ = some (.bool x)) := by
    intro x hx u hu
    rw [← hx, ← hcell]
    exact hu.cell (p := ⟨b, off + (L.length - 1) * 2, Option.none⟩) hb
  by_cases hg : (at' L (L.length - 1)).gone = true
  · exact gone b off _ cap p del w (by omega) h60 (HF true (decide_eq_true hf).symm) (HG _ hg)
  have hg' : (at' L (L.length - 1)).gone = false := by simpa using hg
  obtain ⟨k, hk, hp⟩ := mod62 p
  obtain ⟨kd, dt, hkd, hdel⟩ : ∃ (kd : Int) (dt : ByteArray), (kd = 2 ∨ kd = 3) ∧ ((del = true ∧ kd = 3 ∧ dt = ⟨#[]⟩) ∨ (del = false ∧ kd = 2 ∧ dt = ⟨#[122]⟩)) := by
    cases del
    · exact ⟨2, ⟨#[122]⟩, .inl rfl, .inr ⟨rfl, rfl, rfl⟩⟩
    · exact ⟨3, ⟨#[]⟩, .inr rfl, .inl ⟨rfl, rfl, rfl⟩⟩
  have HD : ∀ (L' : List VerV) (n' : Nat) (c r : Int), doL L kd k dt 100 = L' → doR L kd k 100 = ⟨c, r, ⟨#[]⟩, []⟩ → L'.length = n' →
      Hid (∀ u, Below w.heap.size w u → Calls Try.prog 12 #[.slice (some ⟨b, off, Option.none⟩) L.length cap, .agg #[.int .i64 0, .int .i64 0, .int .i64 kd, .int .i64 0, .int .i64 k, .string dt], .int .i64 100] u (DoesN L' n' [] 0 c r ⟨#[]⟩ u)) :=
    fun L' n' c r h1 h2 h3 u hu => do_n _ L L' n' _ 0 0 _ 0 k _ 100 c r ⟨#[]⟩ [] 0 (show _ = _ from h1) (show _ = _ from h2) h3 rfl u (hV.on hu) (Nat.le_refl _) (by omega)
  by_cases k0 : k = 0
  · subst k0
    have hn := newL_yes L h0 h60 hg' _ hkd 0 dt (.inl rfl)
    exact zero b off _ cap _ p del kd dt hdel w (by omega) h60 hp (HF true (decide_eq_true hf).symm) (HG _ hg') (HD _ (L.length + 1) 1 (L.length + 1) hn.1 hn.2 (by simp))
  by_cases kn : k = L.length
  · subst kn
    have hn := newL_yes L h0 h60 hg' _ hkd L.length dt (.inr rfl)
    exact last b off _ cap _ p del kd dt hdel w (by omega) h60 hp (HF true (decide_eq_true hf).symm) (HG _ hg') (HD _ (L.length + 1) 1 (L.length + 1) hn.1 hn.2 (by simp))
  · have hn := newL_no L h0 hg' _ hkd k dt k0 kn
    exact other b off _ cap k _ p del kd dt hdel w (by omega) h60 hk k0 kn hp (HF true (decide_eq_true hf).symm) (HG _ hg') (HD _ L.length 5 L.length hn.1 hn.2 rfl)

set_option maxRecDepth 100000 in
theorem lifted (os : Os) (started : os.Started) (H : Type) (enc : TypeId × Value → H) :
    ReturnsInHanded {} Try.checked os 6 .any (Rows.chartMatchSpec.pre6 enc Try.prog Try.f6 Rows.chartMatchRow.domain false) (Rows.chartMatchSpec.post enc Try.prog Try.f6 false true false false) := by
  refine returnsInHanded_of_change (C := Try.checked) own started (by kernel_rfl) Try.func6
    (ChangeSpec.witness6 (enc := enc) (C := Try.checked) false ⟨#[], #[.slice none 0 0, .int .i64 0, .bool false], []⟩ 8 (by kernel_rfl) (by kernel_rfl) (by kernel_rfl) (by kernel_rfl)) ?_
  intro W base args ds gs before hval0 hW hcnd _
  have hval : ∀ (j : Nat) t v, Try.f6.params[j]? = some t → args[j]? = some v → Value.okWide Try.prog W .any base t v := hval0
  have hW' := hW
  obtain ⟨p, q, hA0, hV, rfl, hfz, hnd⟩ := hW
  have hA : DataW.TrodAll enc Try.prog W 0 (fun _ => true) true Try.f6.params.toList args.toList ds p := hA0
  rw [Try.params6] at hA hval
  obtain ⟨v0, vs0, d0, ds0, p0, q0, hargs, rfl, rfl, h0, r0⟩ := trodAll_cons hA
  obtain ⟨v1, vs1, d1, ds1, p1, q1, rfl, rfl, rfl, h1, r1⟩ := trodAll_cons r0
  obtain ⟨v2, vs2, d2, ds2, p2, q2, rfl, rfl, rfl, h2, r2⟩ := trodAll_cons r1
  obtain ⟨rfl, rfl, rfl⟩ := trodAll_nil r2
  obtain rfl : args = #[v0, v1, v2] := by cases args; simp_all
  obtain ⟨rfl, rfl⟩ := trodVars_none hV
  obtain ⟨a0, len0, cap0, rfl⟩ := okWide_slice Try.underlying22 (hval 0 22 v0 rfl rfl)
  have k0 := h0
  have lt0 : ∀ x ∈ p0, x.block < W.heap.size := by obtain ⟨m, hm⟩ := k0; exact DataW.trod_lt m _ _ _ hm
  obtain ⟨l0, w0⟩ := vers_open h0
  obtain ⟨a1, rfl, rfl, rfl, w1⟩ := open_int Try.underlying3 (hval 1 3 v1 rfl rfl) h1
  obtain ⟨a2, rfl, rfl, rfl⟩ := open_bool Try.underlying4 (hval 2 4 v2 rfl rfl) h2
  clear hA0 hval0
  refine (walk (.slice a0 len0 cap0) l0 a1 a2 W w0 w1).mono fun e W' ⟨he, bel⟩ => ?_
  subst he
  exact ⟨_, rfl, _, _, _, [], _, [], hW', trodAll_mk1 (shut_bool Try.underlying4 _), (trodAll_cons_mk (Below.trod laidOut (by kernel_rfl) (of_decide_eq_true (by kernel_rfl)) k0 bel lt0) (trodAll_cons_mk (shut_int Try.underlying3 w1) (trodAll_cons_mk (shut_bool Try.underlying4 _) trodAll_mk0))), rfl, bel.frame _, fun h => by cases h⟩

theorem over : Rows.chartMatchRow.holds Try.pinned (OpenSpec.ofChange Rows.chartMatchSpec) :=
  OpenClaim.holds_of_wide 6 Try.f6 rfl rfl rfl rfl rfl rfl rfl ⟨rfl, rfl, rfl, rfl, rfl⟩ rfl rfl rfl rfl rfl (by kernel_rfl) Try.func6 (by kernel_rfl)
    (of_decide_eq_true (by kernel_rfl)) (by unfold Func.isWrapper; first | (rw [if_pos (by decide +kernel)]; kernel_rfl) | (rw [if_neg (by decide +kernel)]; exact ⟨rfl, rfl⟩))
    (fun os started H enc _ => lifted os started H enc)
end Go.Proofs.Ytichojlijhnlpaa.ChartMatch

namespace Go.Proofs.Ytichojlijhnlpaa
theorem chartMatch_holds : Rows.ChartMatchSaid := ChartMatch.over
#print axioms chartMatch_holds
end Go.Proofs.Ytichojlijhnlpaa
