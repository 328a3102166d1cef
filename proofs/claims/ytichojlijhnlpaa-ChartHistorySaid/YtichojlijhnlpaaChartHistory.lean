/-
  PROVED: casebooklaw4.ChartHistory answers true and leaves its argument as it was, for any versions: the row's own reading and nothing else is assumed.
-/
import Derived.Test.YtichojlijhnlpaaChartArgs
import Derived.Test.YtichojlijhnlpaaChartM
namespace Go.Proofs.Ytichojlijhnlpaa.ChartHistory
open Go.ChangeShapes Go.WideShapes Go.ChangeAt Go.RowKit

set_option maxRecDepth 100000 in
set_option maxHeartbeats 1000000 in
theorem notfew (ao : Option Addr) (n cap : Nat) (w : World)
    (HF : Hid (∀ u, Below w.heap.size w u → Calls Try.prog 10 #[.slice ao n cap, .agg #[.int .i64 0, .int .i64 0, .int .i64 0, .int .i64 0, .int .i64 0, .string ⟨#[]⟩]] u fun e w' => e = .returned (.bool false) ∧ Below u.heap.size u w')) :
    Calls Try.prog 5 #[.slice ao n cap] w fun e w' => e = .returned (.bool true) ∧ Below w.heap.size w w' := by
  have HT := Lib.hid (fun u => told4_any u)
  go_enter Try.func5, Try.ntmps5
  go_wp2_with fail
  refine (HF.out _ (Below.refl _ _)).mono ?_
  rintro e w1 ⟨rfl, B1⟩
  have C1 := Lib.hid B1
  clear B1
  go_wp2_with fail
  refine (HT.out _).mono ?_
  rintro e w2 ⟨rfl, B2⟩
  have C2 := Lib.hid (C1.out.trans (B2.mono C1.out.size))
  clear B2
  go_wp2
  go_returns
  exact ⟨rfl, C2.out⟩

set_option maxRecDepth 100000 in
set_option maxHeartbeats 1000000 in
theorem noneL (ao : Option Addr) (cap : Nat) (w : World)
    (HF : Hid (∀ u, Below w.heap.size w u → Calls Try.prog 10 #[.slice ao 0 cap, .agg #[.int .i64 0, .int .i64 0, .int .i64 0, .int .i64 0, .int .i64 0, .string ⟨#[]⟩]] u fun e w' => e = .returned (.bool true) ∧ Below u.heap.size u w'))
    (HA : Hid (∀ u, Below w.heap.size w u → Calls Try.prog 16 #[.slice ao 0 cap, .agg #[.int .i64 0, .int .i64 0, .int .i64 6, .int .i64 0, .int .i64 0, .string ⟨#[]⟩]] u (TellsN [] 0 2 0 ⟨#[]⟩ u))) :
    Calls Try.prog 5 #[.slice ao 0 cap] w fun e w' => e = .returned (.bool true) ∧ Below w.heap.size w w' := by
  have HT := Lib.hid (fun u => told4_any u)
  go_enter Try.func5, Try.ntmps5
  go_wp2_with fail
  refine (HF.out _ (Below.refl _ _)).mono ?_
  rintro e w1 ⟨rfl, B1⟩
  have C1 := Lib.hid B1
  clear B1
  go_wp2_with fail
  refine (HA.out _ C1.out).mono ?_
  rintro e w2 ⟨o2, p2, rfl, _, B2⟩
  have C2 := Lib.hid (C1.out.trans (B2.mono C1.out.size))
  clear B2
  go_wp2_with fail
  refine (HT.out _).mono ?_
  rintro e w3 ⟨rfl, B3⟩
  have C3 := Lib.hid ((C2.out.alloc C2.out.size _).trans (B3.mono (C2.out.alloc C2.out.size _).size))
  obtain ⟨⟨r0, r1, r2, r3⟩, _⟩ := (RepAt.keep (RepAt.new w2 2 0 ⟨#[]⟩ (.slice o2 0 p2)) B3 (by simp)).cells
  clear B3
  go_wp2
  go_returns
  exact ⟨rfl, C3.out⟩

set_option maxRecDepth 100000 in
set_option maxHeartbeats 4000000 in
theorem some' (b off n cap : Nat) (L : List VerV) (w : World) (h1 : 1 ≤ n) (h60 : n ≤ 60) (hn : L.length = n)
    (HF : Hid (∀ u, Below w.heap.size w u → Calls Try.prog 10 #[.slice (some ⟨b, off, Option.none⟩) n cap, .agg #[.int .i64 0, .int .i64 0, .int .i64 0, .int .i64 0, .int .i64 0, .string ⟨#[]⟩]] u fun e w' => e = .returned (.bool true) ∧ Below u.heap.size u w'))
    (HA : Hid (∀ u, Below w.heap.size w u → Calls Try.prog 16 #[.slice (some ⟨b, off, Option.none⟩) n cap, .agg #[.int .i64 0, .int .i64 0, .int .i64 6, .int .i64 0, .int .i64 0, .string ⟨#[]⟩]] u (TellsN (signs L n) n 1 n ⟨#[]⟩ u)))
    (HI : Hid (∀ i, i < n → ∀ u, Below w.heap.size w u → ∀ c d, (if (at' L i).gone = true then (3, ⟨#[]⟩) else (1, (at' L i).data) : Int × ByteArray) = (c, d) → Calls Try.prog 16 #[.slice (some ⟨b, off, Option.none⟩) n cap, .agg #[.int .i64 0, .int .i64 0, .int .i64 5, .int .i64 0, .int .i64 ((i : Int) + 1), .string ⟨#[]⟩]] u (TellsN [] 0 c ((i : Int) + 1) d u)))
    (HZ : Hid (∀ u, Below w.heap.size w u → Calls Try.prog 16 #[.slice (some ⟨b, off, Option.none⟩) n cap, .agg #[.int .i64 0, .int .i64 0, .int .i64 5, .int .i64 0, .int .i64 ((n : Int) + 1), .string ⟨#[]⟩]] u (TellsN [] 0 2 0 ⟨#[]⟩ u)))
    (HL : Hid (∀ i, i < n → ∀ u, Below w.heap.size w u → u.cell? ⟨b, off + i * 2, Option.none⟩ = some (.bool (at' L i).gone) ∧ u.cell? ⟨b, off + i * 2 + 1, Option.none⟩ = some (.string (at' L i).data))) :
    Calls Try.prog 5 #[.slice (some ⟨b, off, Option.none⟩) n cap] w fun e w' => e = .returned (.bool true) ∧ Below w.heap.size w w' := by
  have HT := Lib.hid (fun u => told4_any u)
  have HN := Lib.hid hn
  have e0 : ((n : Int) == 0) = false := by rw [beq_eq_false_iff_ne]; omega
  clear hn
  go_enter Try.func5, Try.ntmps5
  go_wp2_with fail
  refine (HF.out _ (Below.refl _ _)).mono ?_
  rintro e w1 ⟨rfl, B1⟩
  have C1 := Lib.hid B1
  clear B1
  go_wp2_with fail
  refine (HA.out _ C1.out).mono ?_
  rintro e w2 ⟨ho, hc, rfl, I2, B2⟩
  have C2 := Lib.hid (C1.out.trans (B2.mono C1.out.size))
  have C3 : Hid (Below w.heap.size w (w2.alloc (.cells #[.int .i64 1, .int .i64 n, .string ⟨#[]⟩, .slice ho n hc] 29))) := C2.out.alloc C2.out.size _
  have R3 := Lib.hid (RepAt.new w2 1 n ⟨#[]⟩ (.slice ho n hc))
  have I3 := Lib.hid ((I2.keep ((Below.refl _ w2).alloc (Nat.le_refl _) (.cells #[.int .i64 1, .int .i64 n, .string ⟨#[]⟩, .slice ho n hc] 29))).mono (B' := (w2.alloc (.cells #[.int .i64 1, .int .i64 n, .string ⟨#[]⟩, .slice ho n hc] 29)).heap.size) (by simp))
  obtain ⟨b', off', rfl, hI⟩ : ∃ b' off', ho = some ⟨b', off', Option.none⟩ ∧ True := by
    obtain ⟨ao, c', he, _, _, _, h4⟩ := I2
    simp only [Value.slice.injEq] at he
    obtain ⟨rfl, _, _⟩ := he
    obtain ⟨b', off', rfl, _⟩ := h4 (by intro h; have := congrArg List.length h; rw [signs_length] at this; simp at this; omega)
    exact ⟨b', off', rfl, trivial⟩
  obtain ⟨h, hh⟩ : ∃ h, h = w2.heap.size := ⟨_, rfl⟩
  rw [← hh] at R3
  clear hI I2 B2 C2
  go_wp2_with fail
  rw [← hh]
  clear hh
  go_loopw [4] (fun vi wr => ∃ i : Nat, i ≤ n ∧ vi = .int .i64 i ∧ RepAt wr h 1 n ⟨#[]⟩ (.slice (some ⟨b', off', Option.none⟩) n hc) ∧ Ints wr wr.heap.size (.slice (some ⟨b', off', Option.none⟩) n hc) (signs L n) ∧ Below w.heap.size w wr) (fun vi _ => n - (intOf vi).toNat)
  case atStart => exact ⟨0, by omega, rfl, R3.out, I3.out, C3.out⟩
  case round =>
    obtain ⟨i, hi, rfl, hr, hin, hbel⟩ := hrel
    have HR := Lib.hid hr
    have HIn := Lib.hid hin
    have HB := Lib.hid hbel
    clear hr hin hbel
    by_cases hlt : i < n
    · have HX : Hid (∀ u, Below wr.heap.size wr u → u.cell? ⟨b', off' + i, Option.none⟩ = some (.int .i64 (if (at' L i).gone = true then -((i : Int) + 1) else (i : Int) + 1))) := by
        intro u hu
        obtain ⟨ao, c', he, _, _, _, h4⟩ := HIn.out.keep hu
        simp only [Value.slice.injEq] at he
        obtain ⟨rfl, _, rfl⟩ := he
        obtain ⟨b2, off2, e2, _, h5⟩ := h4 (by intro h; have := congrArg List.length h; rw [signs_length] at this; simp at this; omega)
        simp only [Option.some.injEq, Addr.mk.injEq, and_true] at e2
        obtain ⟨rfl, rfl⟩ := e2
        rw [h5 i (by rw [signs_length]; exact hlt)]
        simp [signs, List.getD, hlt, sign]
      have HL2 := Lib.hid (HL.out i hlt)
      generalize hx : at' L i = x at HX HL2
      have HI3 : Hid (∀ u, Below w.heap.size w u → ∀ c d, (if x.gone = true then (3, ⟨#[]⟩) else (1, x.data) : Int × ByteArray) = (c, d) → Calls Try.prog 16 #[.slice (some ⟨b, off, Option.none⟩) n cap, .agg #[.int .i64 0, .int .i64 0, .int .i64 5, .int .i64 0, .int .i64 ((i : Int) + 1), .string ⟨#[]⟩]] u (TellsN [] 0 c ((i : Int) + 1) d u)) := by
        intro u hu c d hcd
        rw [← hx] at hcd
        exact HI.out i hlt u hu c d hcd
      clear hx HI
      obtain ⟨g, d⟩ := x
      simp only at HX HL2 HI3
      cases g
      case false =>
        have HC : Hid (Calls Try.prog 16 #[.slice (some ⟨b, off, Option.none⟩) n cap, .agg #[.int .i64 0, .int .i64 0, .int .i64 5, .int .i64 0, .int .i64 ((i : Int) + 1), .string ⟨#[]⟩]] wr (TellsN [] 0 1 ((i : Int) + 1) d wr)) := HI3.out wr HB.out _ _ (show (if false = true then _ else _) = _ from rfl)
        have HX1 : Hid (∀ u, Below wr.heap.size wr u → u.cell? ⟨b', off' + i, Option.none⟩ = some (.int .i64 ((i : Int) + 1))) := HX.out
        clear HX
        go_wp2_with fail
        refine HC.out.mono ?_
        rintro e w1 ⟨o1, p1, rfl, _, B1⟩
        have B2 : Below wr.heap.size wr (w1.alloc (.cells #[.int .i64 1, .int .i64 ((i : Int) + 1), .string d, .slice o1 0 p1] 29)) := B1.alloc B1.size _
        have R2 : RepAt (w1.alloc (.cells #[.int .i64 1, .int .i64 ((i : Int) + 1), .string d, .slice o1 0 p1] 29)) w1.heap.size 1 ((i : Int) + 1) d (.slice o1 0 p1) := RepAt.new w1 _ _ _ _
        have C2 := Lib.hid (HB.out.trans (B2.mono HB.out.size))
        have H2 := Lib.hid (HR.out.keep B2 HR.out.lt)
        have I2 := Lib.hid ((HIn.out.keep B2).mono B2.size)
        have FX : Hid (∀ u, Below (w1.alloc (.cells #[.int .i64 1, .int .i64 ((i : Int) + 1), .string d, .slice o1 0 p1] 29)).heap.size (w1.alloc (.cells #[.int .i64 1, .int .i64 ((i : Int) + 1), .string d, .slice o1 0 p1] 29)) u → u.cell? ⟨h, 3, Option.none⟩ = some (.slice (some ⟨b', off', Option.none⟩) n hc) ∧ u.cell? ⟨b', off' + i, Option.none⟩ = some (.int .i64 ((i : Int) + 1)) ∧
            u.cell? ⟨w1.heap.size, 0, Option.none⟩ = some (.int .i64 1) ∧ u.cell? ⟨w1.heap.size, 1, Option.none⟩ = some (.int .i64 ((i : Int) + 1)) ∧ u.cell? ⟨w1.heap.size, 2, Option.none⟩ = some (.string d) ∧
            u.cell? ⟨b, off + i * 2 + 1, Option.none⟩ = some (.string d)) := by
          intro u hu
          have q := (R2.keep hu R2.lt).cells.1
          exact ⟨(H2.out.keep hu H2.out.lt).cells.1.2.2.2, HX1.out u (B2.trans (hu.mono B2.size)), q.1, q.2.1, q.2.2.1, (HL2.out u (C2.out.trans (hu.mono C2.out.size))).2⟩
        have g0 : (w1.alloc (.cells #[.int .i64 1, .int .i64 ((i : Int) + 1), .string d, .slice o1 0 p1] 29)).cell? ⟨b, off + i * 2, Option.none⟩ = some (.bool false) := (HL2.out _ C2.out).1
        have j0 : (0 : Int) ≤ (i : Int) := by omega
        have j1 : (i : Int) < (n : Int) := by omega
        clear B1 B2 R2 HC HX1 HL2
        go_wp2_with fail
        have su : IntKind.i64.wrap ((i : Int) + 1) = (i : Int) + 1 := IntWalk.i64_in _ (by omega)
        refine region_quiet (fun v => Below (w1.alloc (.cells #[.int .i64 1, .int .i64 ((i : Int) + 1), .string d, .slice o1 0 p1] 29)).heap.size (w1.alloc (.cells #[.int .i64 1, .int .i64 ((i : Int) + 1), .string d, .slice o1 0 p1] 29)) v) (by kernel_rfl) (by kernel_rfl) ((Below.refl _ _).drew) ?_
        repeat (first
          | go_big_quiet_skip
          | (go_big_quiet_want
             (first
              | (refine quiet_run (v := ?_) ?_ ?_; rotate_left; (intro u hu; obtain ⟨x0, x1, x2, x3, x4, x5⟩ := FX.out u hu; go_simp <;> with_reducible rfl); simp only [Act.put, List.setIfInBounds_toArray, List.set_cons_zero, List.set_cons_succ]; go_big_quiet_on)
      )))
        refine wpQuiet_nil ?_
        intro w4 h4
        have C4 := Lib.hid (C2.out.trans (h4.mono C2.out.size))
        have H4 := Lib.hid (H2.out.keep h4 H2.out.lt)
        have I4 := Lib.hid ((I2.out.keep h4).mono h4.size)
        clear h4 g0 FX H2 I2 C2 su
        go_wp2
        go_roundw
        case rel => exact ⟨i + 1, by omega, by go_num, H4.out, I4.out, C4.out⟩
        case measure => simp [intOf]; omega
      case true =>
        have HC : Hid (Calls Try.prog 16 #[.slice (some ⟨b, off, Option.none⟩) n cap, .agg #[.int .i64 0, .int .i64 0, .int .i64 5, .int .i64 0, .int .i64 ((i : Int) + 1), .string ⟨#[]⟩]] wr (TellsN [] 0 3 ((i : Int) + 1) ⟨#[]⟩ wr)) := HI3.out wr HB.out _ _ (show (if true = true then _ else _) = _ from rfl)
        have HX1 : Hid (∀ u, Below wr.heap.size wr u → u.cell? ⟨b', off' + i, Option.none⟩ = some (.int .i64 (-((i : Int) + 1)))) := HX.out
        clear HX
        go_wp2_with fail
        refine HC.out.mono ?_
        rintro e w1 ⟨o1, p1, rfl, _, B1⟩
        have B2 : Below wr.heap.size wr (w1.alloc (.cells #[.int .i64 3, .int .i64 ((i : Int) + 1), .string ⟨#[]⟩, .slice o1 0 p1] 29)) := B1.alloc B1.size _
        have R2 : RepAt (w1.alloc (.cells #[.int .i64 3, .int .i64 ((i : Int) + 1), .string ⟨#[]⟩, .slice o1 0 p1] 29)) w1.heap.size 3 ((i : Int) + 1) ⟨#[]⟩ (.slice o1 0 p1) := RepAt.new w1 _ _ _ _
        have C2 := Lib.hid (HB.out.trans (B2.mono HB.out.size))
        have H2 := Lib.hid (HR.out.keep B2 HR.out.lt)
        have I2 := Lib.hid ((HIn.out.keep B2).mono B2.size)
        have FX : Hid (∀ u, Below (w1.alloc (.cells #[.int .i64 3, .int .i64 ((i : Int) + 1), .string ⟨#[]⟩, .slice o1 0 p1] 29)).heap.size (w1.alloc (.cells #[.int .i64 3, .int .i64 ((i : Int) + 1), .string ⟨#[]⟩, .slice o1 0 p1] 29)) u → u.cell? ⟨h, 3, Option.none⟩ = some (.slice (some ⟨b', off', Option.none⟩) n hc) ∧ u.cell? ⟨b', off' + i, Option.none⟩ = some (.int .i64 (-((i : Int) + 1))) ∧
            u.cell? ⟨w1.heap.size, 0, Option.none⟩ = some (.int .i64 3) ∧ u.cell? ⟨w1.heap.size, 1, Option.none⟩ = some (.int .i64 ((i : Int) + 1)) ∧ u.cell? ⟨w1.heap.size, 2, Option.none⟩ = some (.string ⟨#[]⟩) ∧
            u.cell? ⟨b, off + i * 2 + 1, Option.none⟩ = some (.string d)) := by
          intro u hu
          have q := (R2.keep hu R2.lt).cells.1
          exact ⟨(H2.out.keep hu H2.out.lt).cells.1.2.2.2, HX1.out u (B2.trans (hu.mono B2.size)), q.1, q.2.1, q.2.2.1, (HL2.out u (C2.out.trans (hu.mono C2.out.size))).2⟩
        have g0 : (w1.alloc (.cells #[.int .i64 3, .int .i64 ((i : Int) + 1), .string ⟨#[]⟩, .slice o1 0 p1] 29)).cell? ⟨b, off + i * 2, Option.none⟩ = some (.bool true) := (HL2.out _ C2.out).1
        have j0 : (0 : Int) ≤ (i : Int) := by omega
        have j1 : (i : Int) < (n : Int) := by omega
        clear B1 B2 R2 HC HX1 HL2
        go_wp2_with fail
        have su : IntKind.i64.wrap ((i : Int) + 1) = (i : Int) + 1 := IntWalk.i64_in _ (by omega)
        refine region_quiet (fun v => Below (w1.alloc (.cells #[.int .i64 3, .int .i64 ((i : Int) + 1), .string ⟨#[]⟩, .slice o1 0 p1] 29)).heap.size (w1.alloc (.cells #[.int .i64 3, .int .i64 ((i : Int) + 1), .string ⟨#[]⟩, .slice o1 0 p1] 29)) v) (by kernel_rfl) (by kernel_rfl) ((Below.refl _ _).drew) ?_
        repeat (first
          | go_big_quiet_skip
          | (go_big_quiet_want
             (first
              | (refine quiet_run (v := ?_) ?_ ?_; rotate_left; (intro u hu; obtain ⟨x0, x1, x2, x3, x4, x5⟩ := FX.out u hu; go_simp <;> with_reducible rfl); simp only [Act.put, List.setIfInBounds_toArray, List.set_cons_zero, List.set_cons_succ]; go_big_quiet_on)
      )))
        refine wpQuiet_nil ?_
        intro w4 h4
        have C4 := Lib.hid (C2.out.trans (h4.mono C2.out.size))
        have H4 := Lib.hid (H2.out.keep h4 H2.out.lt)
        have I4 := Lib.hid ((I2.out.keep h4).mono h4.size)
        clear h4 g0 FX H2 I2 C2 su
        go_wp2
        go_roundw
        case rel => exact ⟨i + 1, by omega, by go_num, H4.out, I4.out, C4.out⟩
        case measure => simp [intOf]; omega
    · obtain rfl : i = n := by omega
      have j0 : (0 : Int) ≤ (i : Int) := by omega
      go_wp2_with fail
      refine (HZ.out _ HB.out).mono ?_
      rintro e w3 ⟨o3, p3, rfl, _, B3⟩
      have C4 := Lib.hid (HB.out.trans (B3.mono HB.out.size))
      clear B3
      go_wp2_with fail
      refine (HT.out _).mono ?_
      rintro e w5 ⟨rfl, B5⟩
      have C5 := Lib.hid ((C4.out.alloc C4.out.size _).trans (B5.mono (C4.out.alloc C4.out.size _).size))
      obtain ⟨⟨r0, r1, r2, r3⟩, _⟩ := (RepAt.keep (RepAt.new w3 2 0 ⟨#[]⟩ (.slice o3 0 p3)) B5 (by simp)).cells
      clear B5
      go_wp2
      go_returns
      exact ⟨rfl, C5.out⟩

theorem rd_at (L : List VerV) (i : Nat) (hi : i < L.length) : askV L 5 ((i : Int) + 1) = if (at' L i).gone = true then ⟨3, (i : Int) + 1, ⟨#[]⟩, []⟩ else ⟨1, (i : Int) + 1, (at' L i).data, []⟩ := by
  unfold askV rdV
  rw [if_neg (by omega), if_pos rfl, if_neg (by omega), show ((i : Int) + 1 - 1).toNat = i by omega]

theorem walk (v : Value) (L : List VerV) (w : World) (hV : Vers w w.heap.size v L ∧ ∀ x ∈ L, x.data.size ≤ maxLen) :
    Calls Try.prog 5 #[v] w fun e w' => e = .returned (.bool true) ∧ Below w.heap.size w w' := by
  obtain ⟨hV, hs⟩ := hV
  obtain ⟨ao, cap, rfl⟩ := hV.shape
  have HF : ∀ R, R = decide (fewV L ⟨#[]⟩) → Hid (∀ u, Below w.heap.size w u → Calls Try.prog 10 #[.slice ao L.length cap, .agg #[.int .i64 0, .int .i64 0, .int .i64 0, .int .i64 0, .int .i64 0, .string ⟨#[]⟩]] u fun e w' => e = .returned (.bool R) ∧ Below u.heap.size u w') :=
    fun R hR u hu => few_r _ L 0 0 0 0 0 ⟨#[]⟩ (by decide) u (hV.on hu) hs R hR
  by_cases hf : fewV L ⟨#[]⟩
  case neg => exact notfew ao _ cap w (HF false (decide_eq_false hf).symm)
  have h60 := hf.1
  have HA : ∀ kd mt c r d (l : List Int) (m : Nat), askV L kd mt = ⟨c, r, d, l⟩ → l.length = m → Hid (∀ u, Below w.heap.size w u → Calls Try.prog 16 #[.slice ao L.length cap, .agg #[.int .i64 0, .int .i64 0, .int .i64 kd, .int .i64 0, .int .i64 mt, .string ⟨#[]⟩]] u (TellsN l m c r d u)) :=
    fun kd mt c r d l m h hm u hu => ask_n _ L _ 0 0 kd 0 mt ⟨#[]⟩ c r d l m h hm u (hV.on hu) (Nat.le_refl _) (by omega)
  by_cases h0 : L.length = 0
  · have ha : askV L 6 0 = ⟨2, 0, ⟨#[]⟩, []⟩ := by
      unfold askV histV
      rw [if_neg (by omega), if_neg (by omega), if_pos rfl, if_pos h0]
    rw [h0] at HF HA ⊢
    exact noneL ao cap w (HF true (decide_eq_true hf).symm) (HA 6 0 2 0 ⟨#[]⟩ [] 0 ha rfl)
  obtain ⟨b, off, rfl, hb, hc⟩ := hV.at (by omega)
  have ha : askV L 6 0 = ⟨1, L.length, ⟨#[]⟩, signs L L.length⟩ := by
    unfold askV histV
    rw [if_neg (by omega), if_neg (by omega), if_pos rfl, if_neg h0]
  have hz : askV L 5 ((L.length : Int) + 1) = ⟨2, 0, ⟨#[]⟩, []⟩ := by
    unfold askV rdV
    rw [if_neg (by omega), if_pos rfl, if_pos (by omega)]
  refine some' b off _ cap L w (by omega) h60 rfl (HF true (decide_eq_true hf).symm) (HA 6 0 1 _ ⟨#[]⟩ _ _ ha (signs_length _ _)) ?_ (HA 5 _ 2 0 ⟨#[]⟩ [] 0 hz rfl) ?_
  · intro i hi u hu c d hcd
    refine (HA 5 ((i : Int) + 1) c ((i : Int) + 1) d [] 0 ?_ rfl).out u hu
    rw [rd_at L i hi]
    split at hcd <;> rename_i hg
    · obtain ⟨rfl, rfl⟩ : 3 = c ∧ (⟨#[]⟩ : ByteArray) = d := by simpa using hcd
      rw [if_pos hg]
    · obtain ⟨rfl, rfl⟩ : 1 = c ∧ (at' L i).data = d := by simpa using hcd
      rw [if_neg hg]
  · intro i hi u hu
    exact ⟨(hu.cell (p := ⟨b, off + i * 2, Option.none⟩) hb).trans (hc i hi).1, (hu.cell (p := ⟨b, off + i * 2 + 1, Option.none⟩) hb).trans (hc i hi).2⟩

set_option maxRecDepth 100000 in
theorem lifted (os : Os) (started : os.Started) (H : Type) (enc : TypeId × Value → H) :
    ReturnsInHanded {} Try.checked os 5 .any (Rows.chartHistorySpec.pre6 enc Try.prog Try.f5 Rows.chartHistoryRow.domain false) (Rows.chartHistorySpec.post enc Try.prog Try.f5 false true false false) := by
  refine returnsInHanded_of_change (C := Try.checked) own started (by kernel_rfl) Try.func5
    (ChangeSpec.witness6 (enc := enc) (C := Try.checked) false ⟨#[], #[.slice none 0 0], []⟩ 8 (by kernel_rfl) (by kernel_rfl) (by kernel_rfl) (by kernel_rfl)) ?_
  intro W base args ds gs before hval0 hW hcnd _
  have hval : ∀ (j : Nat) t v, Try.f5.params[j]? = some t → args[j]? = some v → Value.okWide Try.prog W .any base t v := hval0
  have hW' := hW
  obtain ⟨p, q, hA0, hV, rfl, hfz, hnd⟩ := hW
  have hA : DataW.TrodAll enc Try.prog W 0 (fun _ => true) true Try.f5.params.toList args.toList ds p := hA0
  rw [Try.params5] at hA hval
  obtain ⟨v0, vs0, d0, ds0, p0, q0, hargs, rfl, rfl, h0, r0⟩ := trodAll_cons hA
  obtain ⟨rfl, rfl, rfl⟩ := trodAll_nil r0
  obtain rfl : args = #[v0] := by cases args; simp_all
  obtain ⟨rfl, rfl⟩ := trodVars_none hV
  obtain ⟨a0, len0, cap0, rfl⟩ := okWide_slice Try.underlying22 (hval 0 22 v0 rfl rfl)
  have k0 := h0
  have lt0 : ∀ x ∈ p0, x.block < W.heap.size := by obtain ⟨m, hm⟩ := k0; exact DataW.trod_lt m _ _ _ hm
  obtain ⟨l0, w0⟩ := vers_open h0
  clear hA0 hval0
  refine (walk (.slice a0 len0 cap0) l0 W w0).mono fun e W' ⟨he, bel⟩ => ?_
  subst he
  exact ⟨_, rfl, _, _, _, [], _, [], hW', trodAll_mk1 (shut_bool Try.underlying4 _), (trodAll_cons_mk (Below.trod laidOut (by kernel_rfl) (of_decide_eq_true (by kernel_rfl)) k0 bel lt0) trodAll_mk0), rfl, bel.frame _, fun h => by cases h⟩

theorem over : Rows.chartHistoryRow.holds Try.pinned (OpenSpec.ofChange Rows.chartHistorySpec) :=
  OpenClaim.holds_of_wide 5 Try.f5 rfl rfl rfl rfl rfl rfl rfl ⟨rfl, rfl, rfl, rfl, rfl⟩ rfl rfl rfl rfl rfl (by kernel_rfl) Try.func5 (by kernel_rfl)
    (of_decide_eq_true (by kernel_rfl)) (by unfold Func.isWrapper; first | (rw [if_pos (by decide +kernel)]; kernel_rfl) | (rw [if_neg (by decide +kernel)]; exact ⟨rfl, rfl⟩))
    (fun os started H enc _ => lifted os started H enc)
end Go.Proofs.Ytichojlijhnlpaa.ChartHistory

namespace Go.Proofs.Ytichojlijhnlpaa
theorem chartHistory_holds : Rows.ChartHistorySaid := ChartHistory.over
#print axioms chartHistory_holds
end Go.Proofs.Ytichojlijhnlpaa
