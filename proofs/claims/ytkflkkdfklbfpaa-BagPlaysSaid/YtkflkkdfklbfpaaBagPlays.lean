/-
  PROVED: casebooklaw9.BagPlays answers true and leaves its argument as it was, for any steps: the row's own reading and nothing else is assumed.
-/
import Derived.Test.YtkflkkdfklbfpaaBagQ
import Derived.Test.YtkflkkdfklbfpaaHeld
namespace Go.Proofs.Ytkflkkdfklbfpaa.BagPlays
open Go.ChangeShapes Go.WideShapes Go.ChangeAt Go.RowKit

theorem seq_k {P : Program} {x y : Code} {Q : Exit → Act → World → Prop} {a : Act} {w : World} (h : ∀ K : Act → World → Prop, (∀ a w, y.wp P Q a w → K a w) → x.wp P (Exit.then K Q) a w) : (Code.seq x y).wp P Q a w :=
  wp_seq (h _ fun _ _ h => h)

/-- So many messages, and none is long. -/
def Sm (L : List MsgV) (k : Nat) : Prop := L.length ≤ k ∧ ∀ m ∈ L, m.tx.size ≤ 100

set_option maxRecDepth 100000 in
set_option maxHeartbeats 40000000 in
theorem main (l : List GStepV) (len : Nat) (a : Option Addr) (c : Nat) (w : World) (hI : GSteps w w.heap.size (.slice a len c) l) :
    Calls Try.prog 4 #[.slice a len c] w fun e w' => e = .returned (.bool true) ∧ Below w.heap.size w w' := by
  have HN := Lib.hid (g_new w w w.heap.size (Below.refl _ _) (Nat.le_refl _))
  have HT := Lib.hid (fun u => told9_any u)
  obtain ⟨n, hn⟩ : ∃ n, n = w.heap.size := ⟨_, rfl⟩
  rw [← hn] at HN hI ⊢
  obtain ⟨_, _, hv, hlen, hfits, hcells⟩ := hI
  cases hv
  obtain ⟨len, hl⟩ : ∃ len, len = l.length := ⟨_, rfl⟩
  rw [← hl]
  have HL := Lib.hid hl
  have HF := Lib.hid hfits
  have HC := Lib.hid hcells
  clear hfits hcells hl hlen hn
  go_enter Try.func4, Try.ntmps4
  go_wp2_with fail
  refine HN.out.mono ?_
  rintro e w1 ⟨rfl, hb, _⟩
  have B1 : Hid (GPl n w w1.heap.size [] [] (w1.alloc (.cells #[.slice none 0 0] 39 (0, 0)))) := ⟨hb.alloc _, _, heap_alloc_new _ _, World.ownsRow_nil _ _ _ _, hb.size⟩
  clear hb
  go_wp2_with fail
  generalize hR : w1.heap.size = R at B1 ⊢
  have S0 : Hid (Sm [] 0) := ⟨Nat.le_refl _, fun m hm => absurd hm (by simp)⟩
  clear HN hR
  go_loopw [5] (fun vi wr => ∃ (k : Nat) (L : List MsgV), vi = .int .i64 k ∧ k ≤ len ∧ k ≤ 80 ∧ Hid (Sm L k) ∧ GPl n w R L L wr) (fun vi _ => 200 - (intOf vi).toNat)
  case atStart => exact ⟨0, [], rfl, Nat.zero_le _, by omega, S0, B1.out⟩
  case round =>
    obtain ⟨k, L, rfl, hk, hk80, SS, hb⟩ := hrel
    have HB := Lib.hid hb
    clear hb B1 S0
    by_cases hlt : k < len
    · by_cases h80 : (k : Int) < 80
      · have hkl : k < l.length := by rw [← HL.out]; exact hlt
        obtain ⟨b, off, rfl, hbw, hc⟩ := HC.out (List.length_pos_iff.1 (Nat.lt_of_le_of_lt (Nat.zero_le k) hkl))
        have hby := HF.out _ (List.getElem_mem hkl)
        have hco := (hc k hkl).keep HB.out.bag.bel hbw
        obtain ⟨⟨kd, nn, fr, td, bv, bl⟩, ho⟩ : ∃ o, o = l[k] := ⟨_, rfl⟩
        rw [← ho] at hco hby
        obtain ⟨q0, q1, q2, q3, q4⟩ := hco
        dsimp only at q0 q1 q2 q3 q4 hby
        have HY := Lib.hid hby
        obtain ⟨ba, bc, rfl, _⟩ := hby
        have k0 : (0 : Int) ≤ (k : Int) := by omega
        have k1 : (k : Int) < (len : Int) := by omega
        clear ho hc
        go_upto_region 9 with fail
        obtain ⟨wc, hwc⟩ : ∃ wc, wc = wr.alloc (.cells #[.int .i64 kd, .int .i64 nn, .int .i64 fr, .int .i64 td, .slice ba bl.length bc] 41) := ⟨_, rfl⟩
        obtain ⟨p, hp⟩ : ∃ p, p = wr.heap.size := ⟨_, rfl⟩
        have HS : Hid (GPl n w R L L wc) := Lib.hid (by rw [hwc]; exact HB.out.on (by go_grown))
        have HP : Hid (StpG wc p kd nn fr td (.slice ba bl.length bc)) := Lib.hid (by rw [hwc, hp]; exact heap_alloc_new _ _)
        rw [← hwc, ← hp]
        clear hwc hp HB q0 q1 q2 q3 q4
        obtain ⟨z0, z1, z2, z3, z4⟩ := HP.out.cells
        by_cases h100 : 100 < bl.length
        · go_wp2_with fail
          refine (HT.out _).mono ?_
          rintro e w3 ⟨rfl, hb⟩
          have B3 := Lib.hid (HS.out.on hb)
          clear hb
          go_wp2
          go_returns
          exact ⟨rfl, B3.out.bag.bel⟩
        · skip
          by_cases e0 : kd = 0
          · as_aux_lemma =>
              subst e0
              have hpl := HP.out.lt
              obtain ⟨i8, h8, g80, g81, g82⟩ := info_parts info_u8
              obtain ⟨T, hT⟩ : ∃ T : ByteArray, T = ⟨bl.toArray⟩ := ⟨_, rfl⟩
              have KB9 : Hid (∀ u, Below n w u → (convert 28 9 (.slice ba bl.length bc)).run Try.prog u = .ok (.string T) u) := fun u hu => by rw [hT]; exact run_conv_byt (HY.out.keep hu)
              have HSRC : Hid (∀ u, Below wc.heap.size wc u → Src Try.prog 1 28 (.slice ba bl.length bc) bl.length (Lib.byteCells bl) u) := fun u hu => gsrc_bytes (HY.out.keep (HS.out.bag.bel.trans (hu.mono HS.out.bag.size)))
              have S9 : Hid (Sm (L ++ [⟨fr, td, T⟩]) (k + 1)) := ⟨by rw [List.length_append]; have := SS.out.1; simp; omega, fun m hm => by
                rcases List.mem_append.1 hm with h | h
                · exact SS.out.2 m h
                · rw [List.mem_singleton.1 h, hT]; show (ByteArray.mk bl.toArray).size ≤ 100; rw [show (ByteArray.mk bl.toArray).size = bl.length from List.size_toArray]; omega⟩
              go_wp2_with (at_builtin; refine wpList_append_own_src rfl (.tmp 102) (.tmp 104) 28 28 rfl wc.heap.size 5 i8 (.int .u8 0) 1 1 Try.underlying28 h8 g80 g81 g82 rfl _ _ _ rfl (gown_empty1 (heap_alloc_new wc _) (Nat.le_refl _)) _ bl.length (Lib.byteCells bl) rfl (HSRC.out _ (by go_grown)) ?c3 ?c4 ?c5 ?_)
              case c3 => unfold maxLen; omega
              case c4 => omega
              case c5 => simp
              intro v3 w3 h3 g3
              obtain ⟨ma, mc, rfl⟩ := own_shape h3
              have B3 : Hid (Below wc.heap.size wc w3) := Lib.hid (Below.grown (show Below wc.heap.size wc _ by go_grown) g3 (by simp) (fun x hx => by simp [Value.ownBlock] at hx; omega))
              have R3 := Lib.hid h3
              have G3 := Lib.hid (HS.out.on B3.out)
              have P3 := Lib.hid (HP.out.ka (.of B3.out))
              have hLl : L.length ≤ 80 := by have := SS.out.1; omega
              have HA : Hid (∀ u, Below w3.heap.size w3 u → Calls Try.prog 9 #[.pointer (some ⟨n, 0, none⟩), .int .i64 fr, .int .i64 td, .slice ma bl.length mc] u fun e w' => e = .returned (.int .i64 L.length) ∧ Hid (GPl n w R (L ++ [⟨fr, td, T⟩]) L w') ∧ Hid (KA w3 w') ∧ w'.cell? ⟨R, 0, none⟩ = w3.cell? ⟨R, 0, none⟩) := fun u hu => by
                have hxr : R < w3.heap.size := by obtain ⟨_, hr⟩ := G3.out.ref; exact hr.lt
                refine (q_add (G3.out.on hu) fr td ((byt_own R3.out (Nat.le_refl _)).keep hu) hu.size (by omega)).mono ?_
                rintro e w' ⟨rfl, h1, h2, h3⟩
                rw [hT]
                exact ⟨rfl, h1, (KA.of hu).trans h2, h3.trans (hu.cell hxr)⟩
              obtain ⟨xa, xc, x0, _⟩ := G3.out.cell
              have X0 := Lib.hid x0
              obtain ⟨_, _, b2, b3, _⟩ := P3.out.cells
              have hMR := Lib.hid (fun (u : World) (hk : KA w3 u) (h0 : 0 < bl.length) => mr_own (hk.row R3.out (by decide) (by decide) (by decide) (by decide)) HS.out.bag.size h0)
              clear h3 g3 HSRC z0 z1 z2 z3 z4 hLl hT
              generalize L.length = m7 at x0 X0 HA
              go_upto_region 24 with fail
              refine wp_region_held_drew (S := (fun u => u.cell? ⟨p, 2, none⟩ = some (.int .i64 fr) ∧ u.cell? ⟨p, 3, none⟩ = some (.int .i64 td) ∧ u.cell? ⟨R, 0, none⟩ = some (.slice xa m7 xc))) (by kernel_rfl) (⟨b2, b3, x0⟩) (fun hHeld => ?_)
              first
                | (refine held_take 0 106 (v := ?_) rfl rfl (by kernel_rfl) (by kernel_rfl) (by kernel_rfl) (fun _ _ _ h => h) (by assumption) (by rfl) ?_ ?_; rotate_left; (focus (intro w hSw; (obtain ⟨y1, y2, y3⟩ := hSw); go_simp <;> with_reducible rfl)))
                | refine held_pass 0 106 rfl rfl (by kernel_rfl) (by kernel_rfl) (by kernel_rfl) (fun _ _ _ h => h) (by assumption) (by rfl) ?_
              simp only [Act.put, List.setIfInBounds_toArray, List.set_cons_zero, List.set_cons_succ]
              first
                | (refine held_take 1 107 (v := ?_) rfl rfl (by kernel_rfl) (by kernel_rfl) (by kernel_rfl) (fun _ _ _ h => h) (by assumption) (by rfl) ?_ ?_; rotate_left; (focus (intro w hSw; (obtain ⟨y1, y2, y3⟩ := hSw); go_simp <;> with_reducible rfl)))
                | refine held_pass 1 107 rfl rfl (by kernel_rfl) (by kernel_rfl) (by kernel_rfl) (fun _ _ _ h => h) (by assumption) (by rfl) ?_
              simp only [Act.put, List.setIfInBounds_toArray, List.set_cons_zero, List.set_cons_succ]
              first
                | (refine held_take 2 108 (v := ?_) rfl rfl (by kernel_rfl) (by kernel_rfl) (by kernel_rfl) (fun _ _ _ h => h) (by assumption) (by rfl) ?_ ?_; rotate_left; (focus (intro w hSw; (obtain ⟨y1, y2, y3⟩ := hSw); go_simp <;> with_reducible rfl)))
                | refine held_pass 2 108 rfl rfl (by kernel_rfl) (by kernel_rfl) (by kernel_rfl) (fun _ _ _ h => h) (by assumption) (by rfl) ?_
              simp only [Act.put, List.setIfInBounds_toArray, List.set_cons_zero, List.set_cons_succ]
              first
                | (refine held_take 3 109 (v := ?_) rfl rfl (by kernel_rfl) (by kernel_rfl) (by kernel_rfl) (fun _ _ _ h => h) (by assumption) (by rfl) ?_ ?_; rotate_left; (focus (intro w hSw; (obtain ⟨y1, y2, y3⟩ := hSw); go_simp <;> with_reducible rfl)))
                | refine held_pass 3 109 rfl rfl (by kernel_rfl) (by kernel_rfl) (by kernel_rfl) (fun _ _ _ h => h) (by assumption) (by rfl) ?_
              simp only [Act.put, List.setIfInBounds_toArray, List.set_cons_zero, List.set_cons_succ]
              first
                | (refine held_take 4 110 (v := ?_) rfl rfl (by kernel_rfl) (by kernel_rfl) (by kernel_rfl) (fun _ _ _ h => h) (by assumption) (by rfl) ?_ ?_; rotate_left; (focus (intro w hSw; (obtain ⟨y1, y2, y3⟩ := hSw); go_simp <;> with_reducible rfl)))
                | refine held_pass 4 110 rfl rfl (by kernel_rfl) (by kernel_rfl) (by kernel_rfl) (fun _ _ _ h => h) (by assumption) (by rfl) ?_
              simp only [Act.put, List.setIfInBounds_toArray, List.set_cons_zero, List.set_cons_succ]
              first
                | (refine held_take 5 111 (v := ?_) rfl rfl (by kernel_rfl) (by kernel_rfl) (by kernel_rfl) (fun _ _ _ h => h) (by assumption) (by rfl) ?_ ?_; rotate_left; (focus (intro w hSw; (obtain ⟨y1, y2, y3⟩ := hSw); go_simp <;> with_reducible rfl)))
                | refine held_pass 5 111 rfl rfl (by kernel_rfl) (by kernel_rfl) (by kernel_rfl) (fun _ _ _ h => h) (by assumption) (by rfl) ?_
              simp only [Act.put, List.setIfInBounds_toArray, List.set_cons_zero, List.set_cons_succ]
              first
                | (refine held_take 7 113 (v := ?_) rfl rfl (by kernel_rfl) (by kernel_rfl) (by kernel_rfl) (fun _ _ _ h => h) (by assumption) (by rfl) ?_ ?_; rotate_left; (focus (intro w hSw; (obtain ⟨y1, y2, y3⟩ := hSw); go_simp <;> with_reducible rfl)))
                | refine held_pass 7 113 rfl rfl (by kernel_rfl) (by kernel_rfl) (by kernel_rfl) (fun _ _ _ h => h) (by assumption) (by rfl) ?_
              simp only [Act.put, List.setIfInBounds_toArray, List.set_cons_zero, List.set_cons_succ]
              first
                | (refine held_take 8 114 (v := ?_) rfl rfl (by kernel_rfl) (by kernel_rfl) (by kernel_rfl) (fun _ _ _ h => h) (by assumption) (by rfl) ?_ ?_; rotate_left; (focus (intro w hSw; (obtain ⟨y1, y2, y3⟩ := hSw); go_simp <;> with_reducible rfl)))
                | refine held_pass 8 114 rfl rfl (by kernel_rfl) (by kernel_rfl) (by kernel_rfl) (fun _ _ _ h => h) (by assumption) (by rfl) ?_
              simp only [Act.put, List.setIfInBounds_toArray, List.set_cons_zero, List.set_cons_succ]
              first
                | (refine held_take 9 115 (v := ?_) rfl rfl (by kernel_rfl) (by kernel_rfl) (by kernel_rfl) (fun _ _ _ h => h) (by assumption) (by rfl) ?_ ?_; rotate_left; (focus (intro w hSw; (obtain ⟨y1, y2, y3⟩ := hSw); go_simp <;> with_reducible rfl)))
                | refine held_pass 9 115 rfl rfl (by kernel_rfl) (by kernel_rfl) (by kernel_rfl) (fun _ _ _ h => h) (by assumption) (by rfl) ?_
              simp only [Act.put, List.setIfInBounds_toArray, List.set_cons_zero, List.set_cons_succ]
              first
                | (refine held_take 10 116 (v := ?_) rfl rfl (by kernel_rfl) (by kernel_rfl) (by kernel_rfl) (fun _ _ _ h => h) (by assumption) (by rfl) ?_ ?_; rotate_left; (focus (intro w hSw; (obtain ⟨y1, y2, y3⟩ := hSw); go_simp <;> with_reducible rfl)))
                | refine held_pass 10 116 rfl rfl (by kernel_rfl) (by kernel_rfl) (by kernel_rfl) (fun _ _ _ h => h) (by assumption) (by rfl) ?_
              simp only [Act.put, List.setIfInBounds_toArray, List.set_cons_zero, List.set_cons_succ]
              first
                | (refine held_take 11 117 (v := ?_) rfl rfl (by kernel_rfl) (by kernel_rfl) (by kernel_rfl) (fun _ _ _ h => h) (by assumption) (by rfl) ?_ ?_; rotate_left; (focus (intro w hSw; (obtain ⟨y1, y2, y3⟩ := hSw); go_simp <;> with_reducible rfl)))
                | refine held_pass 11 117 rfl rfl (by kernel_rfl) (by kernel_rfl) (by kernel_rfl) (fun _ _ _ h => h) (by assumption) (by rfl) ?_
              simp only [Act.put, List.setIfInBounds_toArray, List.set_cons_zero, List.set_cons_succ]
              refine held_call 6 112 rfl rfl (by kernel_rfl) (by rfl) (fun K hK => ?_)
              simp only [Go.wp_at_succ, Go.wp_at_zero]
              go_simp
              go_at_call 9
              (with_reducible refine (HA.out _ (by go_grown)).mono ?_)
              rintro e w4 ⟨rfl, G4, K4, c4⟩
              have P4 := Lib.hid (P3.out.ka K4.out)
              obtain ⟨_, _, a2, a3, _⟩ := P4.out.cells
              first | (with_reducible refine hK.out _ _ ?_ (fun hHeld => ?_)) | (go_wp2_with fail; refine hK.out _ _ ?_ (fun hHeld => ?_))
              · exact ⟨a2, a3, c4.trans X0.out⟩
              clear hK K
              try simp only [Act.put, List.setIfInBounds_toArray, List.set_cons_zero, List.set_cons_succ]
              first
                | (refine held_take 12 118 (v := ?_) rfl rfl (by kernel_rfl) (by kernel_rfl) (by kernel_rfl) (fun _ _ _ h => h) (by assumption) (by rfl) ?_ ?_; rotate_left; (focus (intro w hSw; (obtain ⟨y1, y2, y3⟩ := hSw); go_simp <;> with_reducible rfl)))
                | refine held_pass 12 118 rfl rfl (by kernel_rfl) (by kernel_rfl) (by kernel_rfl) (fun _ _ _ h => h) (by assumption) (by rfl) ?_
              simp only [Act.put, List.setIfInBounds_toArray, List.set_cons_zero, List.set_cons_succ]
              refine wpAnyH_done (by kernel_rfl) ?_ _
              have HM4 := Lib.hid (fun h0 => hMR.out w4 K4.out h0)
              clear HA b2 b3 x0 X0 a2 a3 c4 hMR K4 P3 G3 R3 B3
              go_wp2_with fail
              generalize hbn : bl.length = bn at KB9 HM4 ⊢
              go_loopw [8] (fun s8 wr => ∃ j : Nat, s8 = .int .i64 j ∧ j ≤ bn ∧ Hid (GPl n w R (L ++ [⟨fr, td, T⟩]) L wr) ∧ Hid (StpG wr p 0 nn fr td (.slice ba bn bc)) ∧ Hid (0 < bn → ∃ b, ma = some ⟨b, 0, none⟩ ∧ MR n wr b bn)) (fun s8 _ => bn - (intOf s8).toNat)
              case atStart => exact ⟨0, rfl, Nat.zero_le _, G4, by rw [← hbn]; exact P4, HM4⟩
              case round =>
                clear G4 P4 HM4
                obtain ⟨j, rfl, hj, G5, P5, HM5⟩ := hrel
                by_cases hjt : j < bn
                · obtain ⟨mb, rfl, hmr⟩ := HM5.out (by omega)
                  obtain ⟨y, y0, y1⟩ := hmr.cell hjt
                  have j1 : (j : Int) < (bn : Int) := by omega
                  have j0 : (0 : Int) ≤ (j : Int) := by omega
                  have GN := Lib.hid (fun x => hmr.other G5.out j x)
                  have PN := Lib.hid (fun x => hmr.stp P5.out j x)
                  have MN := Lib.hid (fun x => hmr.set j x)
                  clear hmr HM5 G5 P5
                  go_wp2
                  go_roundw
                  case rel => exact ⟨j + 1, by go_num, by omega, GN.out _, PN.out _, fun _ => ⟨mb, rfl, MN.out _⟩⟩
                  case measure => simp [intOf]; omega
                · have hle : (bn : Int) ≤ (j : Int) := by omega
                  obtain ⟨z0, z1, z2, z3, z4⟩ := P5.out.cells
                  obtain ⟨a5, c5, a6, c6, w6, u0, hlt6, x1, x2, hrun, G6, K6, B6⟩ := q_rappend G5.out ⟨fr, td, T⟩ (by have := SS.out.1; omega)
                  clear HM5
                  go_wp2_with fail
                  generalize L.length = m7 at u0 x1 hrun G6 K6 B6
                  go_upto_region 30 with fail
                  have P0 := Lib.hid (P5.out.ka (.of (show Below wr.heap.size wr wr.drew by go_grown)))
                  have P1 := Lib.hid (P5.out.ka (.of (show Below wr.heap.size wr (wr.alloc (.cells #[.int .i64 fr, .int .i64 td, .string T] 43)).drew by go_grown)))
                  have HS0 : Hid (Below n w wr.drew ∧ StpG wr.drew p 0 nn fr td (.slice ba bn bc)) := ⟨G5.out.bag.bel.drew, P0.out⟩
                  have HS1 : Hid (Below n w (wr.alloc (.cells #[.int .i64 fr, .int .i64 td, .string T] 43)).drew ∧ StpG (wr.alloc (.cells #[.int .i64 fr, .int .i64 td, .string T] 43)).drew p 0 nn fr td (.slice ba bn bc)) := ⟨(G5.out.bag.bel.alloc G5.out.bag.size _).drew, P1.out⟩
                  have HS2 : Hid (Below n w w6 ∧ StpG w6 p 0 nn fr td (.slice ba bn bc)) := ⟨B6.out.1, P5.out.ka B6.out.2⟩
                  have HS3 : Hid (Below n w (w6.setCell ⟨R, 0, none⟩ (.slice a6 (m7 + 1) c6)) ∧ StpG (w6.setCell ⟨R, 0, none⟩ (.slice a6 (m7 + 1) c6)) p 0 nn fr td (.slice ba bn bc)) := ⟨G6.out.bag.bel, P5.out.ka K6.out⟩
                  clear z0 z1 z2 z3 z4 P0 P1 P5 G5 B6 K6
                  apply use_it
                  case h =>
                    intro hk
                    refine wp_region_held_drew (S := fun u => Below n w u ∧ StpG u p 0 nn fr td (.slice ba bn bc)) (by kernel_rfl) HS0.out (fun hHeld => ?_)
                    first
                      | (refine held_take 0 131 (v := ?_) rfl rfl (by kernel_rfl) (by kernel_rfl) (by kernel_rfl) (fun _ _ _ h => h) (by assumption) (by rfl) ?_ ?_; rotate_left; (focus (intro w hSw; (obtain ⟨y0, y1, y2, y3, y4⟩ := StpG.cells hSw.2; have kx := KB9.out _ hSw.1); go_simp <;> with_reducible rfl)))
                      | refine held_pass 0 131 rfl rfl (by kernel_rfl) (by kernel_rfl) (by kernel_rfl) (fun _ _ _ h => h) (by assumption) (by rfl) ?_
                    simp only [Act.put, List.setIfInBounds_toArray, List.set_cons_zero, List.set_cons_succ]
                    first
                      | (refine held_take 1 132 (v := ?_) rfl rfl (by kernel_rfl) (by kernel_rfl) (by kernel_rfl) (fun _ _ _ h => h) (by assumption) (by rfl) ?_ ?_; rotate_left; (focus (intro w hSw; (obtain ⟨y0, y1, y2, y3, y4⟩ := StpG.cells hSw.2; have kx := KB9.out _ hSw.1); go_simp <;> with_reducible rfl)))
                      | refine held_pass 1 132 rfl rfl (by kernel_rfl) (by kernel_rfl) (by kernel_rfl) (fun _ _ _ h => h) (by assumption) (by rfl) ?_
                    simp only [Act.put, List.setIfInBounds_toArray, List.set_cons_zero, List.set_cons_succ]
                    first
                      | (refine held_take 2 133 (v := ?_) rfl rfl (by kernel_rfl) (by kernel_rfl) (by kernel_rfl) (fun _ _ _ h => h) (by assumption) (by rfl) ?_ ?_; rotate_left; (focus (intro w hSw; (obtain ⟨y0, y1, y2, y3, y4⟩ := StpG.cells hSw.2; have kx := KB9.out _ hSw.1); go_simp <;> with_reducible rfl)))
                      | refine held_pass 2 133 rfl rfl (by kernel_rfl) (by kernel_rfl) (by kernel_rfl) (fun _ _ _ h => h) (by assumption) (by rfl) ?_
                    simp only [Act.put, List.setIfInBounds_toArray, List.set_cons_zero, List.set_cons_succ]
                    first
                      | (refine held_take 3 134 (v := ?_) rfl rfl (by kernel_rfl) (by kernel_rfl) (by kernel_rfl) (fun _ _ _ h => h) (by assumption) (by rfl) ?_ ?_; rotate_left; (focus (intro w hSw; (obtain ⟨y0, y1, y2, y3, y4⟩ := StpG.cells hSw.2; have kx := KB9.out _ hSw.1); go_simp <;> with_reducible rfl)))
                      | refine held_pass 3 134 rfl rfl (by kernel_rfl) (by kernel_rfl) (by kernel_rfl) (fun _ _ _ h => h) (by assumption) (by rfl) ?_
                    simp only [Act.put, List.setIfInBounds_toArray, List.set_cons_zero, List.set_cons_succ]
                    first
                      | (refine held_take 5 136 (v := ?_) rfl rfl (by kernel_rfl) (by kernel_rfl) (by kernel_rfl) (fun _ _ _ h => h) (by assumption) (by rfl) ?_ ?_; rotate_left; (focus (intro w hSw; (obtain ⟨y0, y1, y2, y3, y4⟩ := StpG.cells hSw.2; have kx := KB9.out _ hSw.1); go_simp <;> with_reducible rfl)))
                      | refine held_pass 5 136 rfl rfl (by kernel_rfl) (by kernel_rfl) (by kernel_rfl) (fun _ _ _ h => h) (by assumption) (by rfl) ?_
                    simp only [Act.put, List.setIfInBounds_toArray, List.set_cons_zero, List.set_cons_succ]
                    first
                      | (refine held_take 6 137 (v := ?_) rfl rfl (by kernel_rfl) (by kernel_rfl) (by kernel_rfl) (fun _ _ _ h => h) (by assumption) (by rfl) ?_ ?_; rotate_left; (focus (intro w hSw; (obtain ⟨y0, y1, y2, y3, y4⟩ := StpG.cells hSw.2; have kx := KB9.out _ hSw.1); go_simp <;> with_reducible rfl)))
                      | refine held_pass 6 137 rfl rfl (by kernel_rfl) (by kernel_rfl) (by kernel_rfl) (fun _ _ _ h => h) (by assumption) (by rfl) ?_
                    simp only [Act.put, List.setIfInBounds_toArray, List.set_cons_zero, List.set_cons_succ]
                    first
                      | (refine held_take 7 138 (v := ?_) rfl rfl (by kernel_rfl) (by kernel_rfl) (by kernel_rfl) (fun _ _ _ h => h) (by assumption) (by rfl) ?_ ?_; rotate_left; (focus (intro w hSw; (obtain ⟨y0, y1, y2, y3, y4⟩ := StpG.cells hSw.2; have kx := KB9.out _ hSw.1); go_simp <;> with_reducible rfl)))
                      | refine held_pass 7 138 rfl rfl (by kernel_rfl) (by kernel_rfl) (by kernel_rfl) (fun _ _ _ h => h) (by assumption) (by rfl) ?_
                    simp only [Act.put, List.setIfInBounds_toArray, List.set_cons_zero, List.set_cons_succ]
                    first
                      | (refine held_take 8 139 (v := ?_) rfl rfl (by kernel_rfl) (by kernel_rfl) (by kernel_rfl) (fun _ _ _ h => h) (by assumption) (by rfl) ?_ ?_; rotate_left; (focus (intro w hSw; (obtain ⟨y0, y1, y2, y3, y4⟩ := StpG.cells hSw.2; have kx := KB9.out _ hSw.1); go_simp <;> with_reducible rfl)))
                      | refine held_pass 8 139 rfl rfl (by kernel_rfl) (by kernel_rfl) (by kernel_rfl) (fun _ _ _ h => h) (by assumption) (by rfl) ?_
                    simp only [Act.put, List.setIfInBounds_toArray, List.set_cons_zero, List.set_cons_succ]
                    first
                      | (refine held_take 9 140 (v := ?_) rfl rfl (by kernel_rfl) (by kernel_rfl) (by kernel_rfl) (fun _ _ _ h => h) (by assumption) (by rfl) ?_ ?_; rotate_left; (focus (intro w hSw; (obtain ⟨y0, y1, y2, y3, y4⟩ := StpG.cells hSw.2; have kx := KB9.out _ hSw.1); go_simp <;> with_reducible rfl)))
                      | refine held_pass 9 140 rfl rfl (by kernel_rfl) (by kernel_rfl) (by kernel_rfl) (fun _ _ _ h => h) (by assumption) (by rfl) ?_
                    simp only [Act.put, List.setIfInBounds_toArray, List.set_cons_zero, List.set_cons_succ]
                    first
                      | (refine held_take 10 141 (v := ?_) rfl rfl (by kernel_rfl) (by kernel_rfl) (by kernel_rfl) (fun _ _ _ h => h) (by assumption) (by rfl) ?_ ?_; rotate_left; (focus (intro w hSw; (obtain ⟨y0, y1, y2, y3, y4⟩ := StpG.cells hSw.2; have kx := KB9.out _ hSw.1); go_simp <;> with_reducible rfl)))
                      | refine held_pass 10 141 rfl rfl (by kernel_rfl) (by kernel_rfl) (by kernel_rfl) (fun _ _ _ h => h) (by assumption) (by rfl) ?_
                    simp only [Act.put, List.setIfInBounds_toArray, List.set_cons_zero, List.set_cons_succ]
                    first
                      | (refine held_take 11 142 (v := ?_) rfl rfl (by kernel_rfl) (by kernel_rfl) (by kernel_rfl) (fun _ _ _ h => h) (by assumption) (by rfl) ?_ ?_; rotate_left; (focus (intro w hSw; (obtain ⟨y0, y1, y2, y3, y4⟩ := StpG.cells hSw.2; have kx := KB9.out _ hSw.1); go_simp <;> with_reducible rfl)))
                      | refine held_pass 11 142 rfl rfl (by kernel_rfl) (by kernel_rfl) (by kernel_rfl) (fun _ _ _ h => h) (by assumption) (by rfl) ?_
                    simp only [Act.put, List.setIfInBounds_toArray, List.set_cons_zero, List.set_cons_succ]
                    first
                      | (refine held_take 12 143 (v := ?_) rfl rfl (by kernel_rfl) (by kernel_rfl) (by kernel_rfl) (fun _ _ _ h => h) (by assumption) (by rfl) ?_ ?_; rotate_left; (focus (intro w hSw; (obtain ⟨y0, y1, y2, y3, y4⟩ := StpG.cells hSw.2; have kx := KB9.out _ hSw.1); go_simp <;> with_reducible rfl)))
                      | refine held_pass 12 143 rfl rfl (by kernel_rfl) (by kernel_rfl) (by kernel_rfl) (fun _ _ _ h => h) (by assumption) (by rfl) ?_
                    simp only [Act.put, List.setIfInBounds_toArray, List.set_cons_zero, List.set_cons_succ]
                    refine wpAnyH_ready (rs := [4, 13]) (by kernel_rfl) (by simp) (AllReadyH.cons rfl (fun K hK => ?_) (AllReadyH.cons rfl (fun K hK => ?_) AllReadyH.nil))
                    · simp only [Go.wp_at_succ, Go.wp_at_zero]
                      go_simp
                      with_reducible refine hK.out _ _ HS0.out (fun hHeld => ?_)
                      clear hK K
                      try simp only [Act.put, List.setIfInBounds_toArray, List.set_cons_zero, List.set_cons_succ]
                      refine wpAnyH_ready (rs := [13]) (by kernel_rfl) (by simp) (AllReadyH.cons rfl (fun K hK => ?_) AllReadyH.nil)
                      simp only [Go.wp_at_succ, Go.wp_at_zero]
                      go_simp
                      with_reducible refine hK.out _ _ HS1.out (fun hHeld => ?_)
                      clear hK K
                      try simp only [Act.put, List.setIfInBounds_toArray, List.set_cons_zero, List.set_cons_succ]
                      refine wpAnyH_ready (rs := [14]) (by kernel_rfl) (by simp) (AllReadyH.cons rfl (fun K hK => ?_) AllReadyH.nil)
                      refine step_append_run rfl (.tmp 135) (.tmp 144) 37 37 rfl (.slice a5 m7 c5) (.slice (some ⟨wr.heap.size, 0, none⟩) 1 1) (.slice a6 (m7 + 1) c6) w6 rfl rfl hrun ?_
                      with_reducible refine hK.out _ _ HS2.out (fun hHeld => ?_)
                      clear hK K
                      try simp only [Act.put, List.setIfInBounds_toArray]
                      first
                        | (refine held_take 15 146 (v := ?_) rfl rfl (by kernel_rfl) (by kernel_rfl) (by kernel_rfl) (fun _ _ _ h => h) (by assumption) (by rfl) ?_ ?_; rotate_left; (focus (intro w hSw; (obtain ⟨y0, y1, y2, y3, y4⟩ := StpG.cells hSw.2; have kx := KB9.out _ hSw.1); go_simp <;> with_reducible rfl)))
                        | refine held_pass 15 146 rfl rfl (by kernel_rfl) (by kernel_rfl) (by kernel_rfl) (fun _ _ _ h => h) (by assumption) (by rfl) ?_
                      simp only [Act.put]
                      first
                        | (refine held_take 16 147 (v := ?_) rfl rfl (by kernel_rfl) (by kernel_rfl) (by kernel_rfl) (fun _ _ _ h => h) (by assumption) (by rfl) ?_ ?_; rotate_left; (focus (intro w hSw; (obtain ⟨y0, y1, y2, y3, y4⟩ := StpG.cells hSw.2; have kx := KB9.out _ hSw.1); go_simp <;> with_reducible rfl)))
                        | refine held_pass 16 147 rfl rfl (by kernel_rfl) (by kernel_rfl) (by kernel_rfl) (fun _ _ _ h => h) (by assumption) (by rfl) ?_
                      simp only [Act.put]
                      refine wpAnyH_ready (rs := [17]) (by kernel_rfl) (by simp) (AllReadyH.cons rfl (fun K hK => ?_) AllReadyH.nil)
                      simp only [Go.wp_at_succ, Go.wp_at_zero]
                      go_simp
                      with_reducible refine hK.out _ _ HS3.out (fun hHeld => ?_)
                      clear hK K
                      try simp only [Act.put, List.setIfInBounds_toArray, List.set_cons_zero, List.set_cons_succ]
                      refine wpAnyH_done (by kernel_rfl) ?_ _
                      exact hk
                    · simp only [Go.wp_at_succ, Go.wp_at_zero]
                      go_simp
                      with_reducible refine hK.out _ _ HS1.out (fun hHeld => ?_)
                      clear hK K
                      try simp only [Act.put, List.setIfInBounds_toArray, List.set_cons_zero, List.set_cons_succ]
                      refine wpAnyH_ready (rs := [4]) (by kernel_rfl) (by simp) (AllReadyH.cons rfl (fun K hK => ?_) AllReadyH.nil)
                      simp only [Go.wp_at_succ, Go.wp_at_zero]
                      go_simp
                      with_reducible refine hK.out _ _ HS1.out (fun hHeld => ?_)
                      clear hK K
                      try simp only [Act.put, List.setIfInBounds_toArray, List.set_cons_zero, List.set_cons_succ]
                      refine wpAnyH_ready (rs := [14]) (by kernel_rfl) (by simp) (AllReadyH.cons rfl (fun K hK => ?_) AllReadyH.nil)
                      refine step_append_run rfl (.tmp 135) (.tmp 144) 37 37 rfl (.slice a5 m7 c5) (.slice (some ⟨wr.heap.size, 0, none⟩) 1 1) (.slice a6 (m7 + 1) c6) w6 rfl rfl hrun ?_
                      with_reducible refine hK.out _ _ HS2.out (fun hHeld => ?_)
                      clear hK K
                      try simp only [Act.put, List.setIfInBounds_toArray]
                      first
                        | (refine held_take 15 146 (v := ?_) rfl rfl (by kernel_rfl) (by kernel_rfl) (by kernel_rfl) (fun _ _ _ h => h) (by assumption) (by rfl) ?_ ?_; rotate_left; (focus (intro w hSw; (obtain ⟨y0, y1, y2, y3, y4⟩ := StpG.cells hSw.2; have kx := KB9.out _ hSw.1); go_simp <;> with_reducible rfl)))
                        | refine held_pass 15 146 rfl rfl (by kernel_rfl) (by kernel_rfl) (by kernel_rfl) (fun _ _ _ h => h) (by assumption) (by rfl) ?_
                      simp only [Act.put]
                      first
                        | (refine held_take 16 147 (v := ?_) rfl rfl (by kernel_rfl) (by kernel_rfl) (by kernel_rfl) (fun _ _ _ h => h) (by assumption) (by rfl) ?_ ?_; rotate_left; (focus (intro w hSw; (obtain ⟨y0, y1, y2, y3, y4⟩ := StpG.cells hSw.2; have kx := KB9.out _ hSw.1); go_simp <;> with_reducible rfl)))
                        | refine held_pass 16 147 rfl rfl (by kernel_rfl) (by kernel_rfl) (by kernel_rfl) (fun _ _ _ h => h) (by assumption) (by rfl) ?_
                      simp only [Act.put]
                      refine wpAnyH_ready (rs := [17]) (by kernel_rfl) (by simp) (AllReadyH.cons rfl (fun K hK => ?_) AllReadyH.nil)
                      simp only [Go.wp_at_succ, Go.wp_at_zero]
                      go_simp
                      with_reducible refine hK.out _ _ HS3.out (fun hHeld => ?_)
                      clear hK K
                      try simp only [Act.put, List.setIfInBounds_toArray, List.set_cons_zero, List.set_cons_succ]
                      refine wpAnyH_done (by kernel_rfl) ?_ _
                      exact hk
                  case g =>
                    clear HS0 HS1 HS2 HS3 hrun u0 x1 x2
                    obtain ⟨wE, hE⟩ : ∃ wE, wE = (w6.setCell ⟨R, 0, none⟩ (.slice a6 (m7 + 1) c6)) := ⟨_, rfl⟩
                    have GE := G6
                    rw [← hE] at GE ⊢
                    clear hE
                    obtain ⟨xa, xc, x0, _⟩ := GE.out.cell
                    have HLe : Hid (∀ u, Below wE.heap.size wE u → Calls Try.prog 12 #[.pointer (some ⟨n, 0, none⟩)] u fun e w' => e = .returned (.int .i64 (L ++ [(⟨fr, td, T⟩ : MsgV)]).length) ∧ u = w') := fun u hu => q_len (GE.out.on hu)
                    have hxr : R < wE.heap.size := by obtain ⟨_, hr⟩ := GE.out.ref; exact hr.lt
                    have X0 := Lib.hid x0
                    have XR := Lib.hid hxr
                    clear x0 hxr
                    generalize (L ++ [(⟨fr, td, T⟩ : MsgV)]).length = m9 at X0 HLe
                    go_upto_region 50 with fail
                    refine wp_region_held_drew (S := (fun u => Below wE.heap.size wE u)) (by kernel_rfl) (Below.drew (Below.refl _ _)) (fun hHeld => ?_)
                    first
                      | (refine held_take 0 283 (v := ?_) rfl rfl (by kernel_rfl) (by kernel_rfl) (by kernel_rfl) (fun _ _ _ h => h) (by assumption) (by rfl) ?_ ?_; rotate_left; (focus (intro w hSw; (have y0 := (Below.cell (p := ⟨R, 0, none⟩) hSw XR.out).trans X0.out); go_simp <;> with_reducible rfl)))
                      | refine held_pass 0 283 rfl rfl (by kernel_rfl) (by kernel_rfl) (by kernel_rfl) (fun _ _ _ h => h) (by assumption) (by rfl) ?_
                    simp only [Act.put, List.setIfInBounds_toArray, List.set_cons_zero, List.set_cons_succ]
                    first
                      | (refine held_take 2 285 (v := ?_) rfl rfl (by kernel_rfl) (by kernel_rfl) (by kernel_rfl) (fun _ _ _ h => h) (by assumption) (by rfl) ?_ ?_; rotate_left; (focus (intro w hSw; (have y0 := (Below.cell (p := ⟨R, 0, none⟩) hSw XR.out).trans X0.out); go_simp <;> with_reducible rfl)))
                      | refine held_pass 2 285 rfl rfl (by kernel_rfl) (by kernel_rfl) (by kernel_rfl) (fun _ _ _ h => h) (by assumption) (by rfl) ?_
                    simp only [Act.put, List.setIfInBounds_toArray, List.set_cons_zero, List.set_cons_succ]
                    first
                      | (refine held_take 3 286 (v := ?_) rfl rfl (by kernel_rfl) (by kernel_rfl) (by kernel_rfl) (fun _ _ _ h => h) (by assumption) (by rfl) ?_ ?_; rotate_left; (focus (intro w hSw; (have y0 := (Below.cell (p := ⟨R, 0, none⟩) hSw XR.out).trans X0.out); go_simp <;> with_reducible rfl)))
                      | refine held_pass 3 286 rfl rfl (by kernel_rfl) (by kernel_rfl) (by kernel_rfl) (fun _ _ _ h => h) (by assumption) (by rfl) ?_
                    simp only [Act.put, List.setIfInBounds_toArray, List.set_cons_zero, List.set_cons_succ]
                    first
                      | (refine held_take 4 287 (v := ?_) rfl rfl (by kernel_rfl) (by kernel_rfl) (by kernel_rfl) (fun _ _ _ h => h) (by assumption) (by rfl) ?_ ?_; rotate_left; (focus (intro w hSw; (have y0 := (Below.cell (p := ⟨R, 0, none⟩) hSw XR.out).trans X0.out); go_simp <;> with_reducible rfl)))
                      | refine held_pass 4 287 rfl rfl (by kernel_rfl) (by kernel_rfl) (by kernel_rfl) (fun _ _ _ h => h) (by assumption) (by rfl) ?_
                    simp only [Act.put, List.setIfInBounds_toArray, List.set_cons_zero, List.set_cons_succ]
                    first
                      | (refine held_take 5 288 (v := ?_) rfl rfl (by kernel_rfl) (by kernel_rfl) (by kernel_rfl) (fun _ _ _ h => h) (by assumption) (by rfl) ?_ ?_; rotate_left; (focus (intro w hSw; (have y0 := (Below.cell (p := ⟨R, 0, none⟩) hSw XR.out).trans X0.out); go_simp <;> with_reducible rfl)))
                      | refine held_pass 5 288 rfl rfl (by kernel_rfl) (by kernel_rfl) (by kernel_rfl) (fun _ _ _ h => h) (by assumption) (by rfl) ?_
                    simp only [Act.put, List.setIfInBounds_toArray, List.set_cons_zero, List.set_cons_succ]
                    first
                      | (refine held_take 6 289 (v := ?_) rfl rfl (by kernel_rfl) (by kernel_rfl) (by kernel_rfl) (fun _ _ _ h => h) (by assumption) (by rfl) ?_ ?_; rotate_left; (focus (intro w hSw; (have y0 := (Below.cell (p := ⟨R, 0, none⟩) hSw XR.out).trans X0.out); go_simp <;> with_reducible rfl)))
                      | refine held_pass 6 289 rfl rfl (by kernel_rfl) (by kernel_rfl) (by kernel_rfl) (fun _ _ _ h => h) (by assumption) (by rfl) ?_
                    simp only [Act.put, List.setIfInBounds_toArray, List.set_cons_zero, List.set_cons_succ]
                    refine held_call 1 284 rfl rfl (by kernel_rfl) (by rfl) (fun K hK => ?_)
                    simp only [Go.wp_at_succ, Go.wp_at_zero]
                    go_simp
                    go_at_call 12
                    (with_reducible refine (HLe.out _ hHeld).mono ?_)
                    rintro e u9 ⟨rfl, rfl⟩
                    first | (with_reducible refine hK.out _ _ ?_ (fun hHeld => ?_)) | (go_wp2_with fail; refine hK.out _ _ ?_ (fun hHeld => ?_))
                    · exact hHeld
                    clear hK K
                    try simp only [Act.put, List.setIfInBounds_toArray, List.set_cons_zero, List.set_cons_succ]
                    first
                      | (refine held_take 7 290 (v := ?_) rfl rfl (by kernel_rfl) (by kernel_rfl) (by kernel_rfl) (fun _ _ _ h => h) (by assumption) (by rfl) ?_ ?_; rotate_left; (focus (intro w hSw; (have y0 := (Below.cell (p := ⟨R, 0, none⟩) hSw XR.out).trans X0.out); go_simp <;> with_reducible rfl)))
                      | refine held_pass 7 290 rfl rfl (by kernel_rfl) (by kernel_rfl) (by kernel_rfl) (fun _ _ _ h => h) (by assumption) (by rfl) ?_
                    simp only [Act.put, List.setIfInBounds_toArray, List.set_cons_zero, List.set_cons_succ]
                    refine wpAnyH_done (by kernel_rfl) ?_ _
                    clear HLe
                    go_wp2
                    go_roundw
                    case rel => exact ⟨k + 1, L ++ [(⟨fr, td, T⟩ : MsgV)], by go_num, by omega, by omega, S9, GE.out.on (by go_grown)⟩
                    case measure => simp [intOf]; omega
          · have b0 : (kd == 0) = false := beq_eq_false_iff_ne.2 e0
            by_cases e1 : kd = 1
            · subst e1
              by_cases hr : 0 ≤ nn ∧ nn < (L.length : Int)
              · as_aux_lemma =>
                  obtain ⟨q, rfl⟩ : ∃ q : Nat, nn = (q : Int) := ⟨nn.toNat, by omega⟩
                  have hq : q < L.length := by omega
                  have hLl : L.length ≤ 80 := by have := SS.out.1; omega
                  have hmem := mAt_mem hq
                  have hsz := SS.out.2 _ hmem
                  
                  have HT1 : Hid (∀ u, Below wc.heap.size wc u → Calls Try.prog 13 #[.pointer (some ⟨n, 0, none⟩), .int .i64 q] u fun e w' => (∃ a s c, e = .returned (.tuple #[.int .i64 (mAt L q).fr, .int .i64 (mAt L q).to, .slice a s c, .int .i64 0]) ∧ Hid (Byt w' w'.heap.size (.slice a s c) (mAt L q).tx.data.toList ∧ ∀ b, a = some b → ∃ cs fz, w'.heap[b.block]? = some (.cells cs 5 fz))) ∧ Hid (GPl n w R (L.take q ++ L.drop (q + 1)) L w') ∧ Hid (StpG w' p 1 q fr td (.slice ba bl.length bc))) := fun u hu => by
                    refine (q_take (HS.out.on hu) q hq (by omega) (by exact Nat.le_trans hsz (by decide))).mono ?_
                    rintro e w' ⟨⟨a, c, rfl, hy⟩, h1, h2⟩
                    exact ⟨⟨a, _, c, rfl, hy⟩, h1, (HP.out.ka (.of hu)).ka h2⟩
                  have HT2 : Hid (∀ u a s c, GPl n w R (L.take q ++ L.drop (q + 1)) L u → (Byt u u.heap.size (.slice a s c) (mAt L q).tx.data.toList ∧ ∀ b, a = some b → ∃ cs fz, u.heap[b.block]? = some (.cells cs 5 fz)) → Calls Try.prog 14 #[.pointer (some ⟨R, 0, none⟩), .int .i64 q] u fun e w' => e = .returned (.tuple #[.agg #[.int .i64 (mAt L q).fr, .int .i64 (mAt L q).to, .string (mAt L q).tx], .bool true]) ∧ Hid (GPl n w R (L.take q ++ L.drop (q + 1)) (L.take q ++ L.drop (q + 1)) w') ∧ Hid (∀ u', Below w'.heap.size w' u' → (convert 28 9 (.slice a s c)).run Try.prog u' = .ok (.string (mAt L q).tx) u')) := fun u a s c hu hy => by
                    refine (q_rtakeB hu q hq (by omega) hy.1 hy.2).mono ?_
                    rintro e w' ⟨rfl, h1, h2⟩
                    exact ⟨rfl, h1, h2⟩
                  have S9 : Hid (Sm (L.take q ++ L.drop (q + 1)) (k + 1)) := ⟨by rw [List.length_append, List.length_take, List.length_drop]; have := SS.out.1; omega, fun m hm => by
                    rcases List.mem_append.1 hm with h | h
                    · exact SS.out.2 m (List.mem_of_mem_take h)
                    · exact SS.out.2 m (List.mem_of_mem_drop h)⟩
                  
                  obtain ⟨f1, hf1⟩ : ∃ f, f = (mAt L q).fr := ⟨_, rfl⟩
                  obtain ⟨f2, hf2⟩ : ∃ f, f = (mAt L q).to := ⟨_, rfl⟩
                  obtain ⟨f3, hf3⟩ : ∃ f, f = (mAt L q).tx := ⟨_, rfl⟩
                  rw [← hf1, ← hf2, ← hf3] at HT1 HT2
                  clear hf1 hf2 hf3 hmem hsz hr hq hLl
                  go_wp2_with fail
                  refine (HT1.out _ (by go_grown)).mono ?_
                  rintro e w3 ⟨⟨a3, s3, c3, rfl, Y3⟩, G3, P3⟩
                  obtain ⟨_, x1, _⟩ := P3.out.cells
                  clear z0 z1 z2 z3 z4 HT1
                  go_wp2_with fail
                  refine (HT2.out _ a3 s3 c3 G3.out Y3.out).mono ?_
                  rintro e w4 ⟨rfl, G4, K4⟩
                  have kx := K4.out _ (show Below w4.heap.size w4 (w4.alloc (.cells #[.int .i64 f1, .int .i64 f2, .string f3] 43)) by go_grown)
                  clear x1 HT2 G3 P3 Y3
                  go_wp2_with fail
                  go_upto_region 50 with fail
                  obtain ⟨wE, hE⟩ : ∃ wE, wE = (w4.alloc (.cells #[.int .i64 f1, .int .i64 f2, .string f3] 43)) := ⟨_, rfl⟩
                  have GE := Lib.hid (G4.out.on (show Below w4.heap.size w4 (w4.alloc (.cells #[.int .i64 f1, .int .i64 f2, .string f3] 43)) by go_grown))
                  rw [← hE] at GE ⊢
                  clear hE
                  obtain ⟨xa, xc, x0, _⟩ := GE.out.cell
                  have HLe : Hid (∀ u, Below wE.heap.size wE u → Calls Try.prog 12 #[.pointer (some ⟨n, 0, none⟩)] u fun e w' => e = .returned (.int .i64 (L.take q ++ L.drop (q + 1)).length) ∧ u = w') := fun u hu => q_len (GE.out.on hu)
                  have hxr : R < wE.heap.size := by obtain ⟨_, hr⟩ := GE.out.ref; exact hr.lt
                  have X0 := Lib.hid x0
                  have XR := Lib.hid hxr
                  clear x0 hxr
                  generalize (L.take q ++ L.drop (q + 1)).length = m9 at X0 HLe
                  refine wp_region_held_drew (S := (fun u => Below wE.heap.size wE u)) (by kernel_rfl) (Below.drew (Below.refl _ _)) (fun hHeld => ?_)
                  first
                    | (refine held_take 0 283 (v := ?_) rfl rfl (by kernel_rfl) (by kernel_rfl) (by kernel_rfl) (fun _ _ _ h => h) (by assumption) (by rfl) ?_ ?_; rotate_left; (focus (intro w hSw; (have y0 := (Below.cell (p := ⟨R, 0, none⟩) hSw XR.out).trans X0.out); go_simp <;> with_reducible rfl)))
                    | refine held_pass 0 283 rfl rfl (by kernel_rfl) (by kernel_rfl) (by kernel_rfl) (fun _ _ _ h => h) (by assumption) (by rfl) ?_
                  simp only [Act.put, List.setIfInBounds_toArray, List.set_cons_zero, List.set_cons_succ]
                  first
                    | (refine held_take 2 285 (v := ?_) rfl rfl (by kernel_rfl) (by kernel_rfl) (by kernel_rfl) (fun _ _ _ h => h) (by assumption) (by rfl) ?_ ?_; rotate_left; (focus (intro w hSw; (have y0 := (Below.cell (p := ⟨R, 0, none⟩) hSw XR.out).trans X0.out); go_simp <;> with_reducible rfl)))
                    | refine held_pass 2 285 rfl rfl (by kernel_rfl) (by kernel_rfl) (by kernel_rfl) (fun _ _ _ h => h) (by assumption) (by rfl) ?_
                  simp only [Act.put, List.setIfInBounds_toArray, List.set_cons_zero, List.set_cons_succ]
                  first
                    | (refine held_take 3 286 (v := ?_) rfl rfl (by kernel_rfl) (by kernel_rfl) (by kernel_rfl) (fun _ _ _ h => h) (by assumption) (by rfl) ?_ ?_; rotate_left; (focus (intro w hSw; (have y0 := (Below.cell (p := ⟨R, 0, none⟩) hSw XR.out).trans X0.out); go_simp <;> with_reducible rfl)))
                    | refine held_pass 3 286 rfl rfl (by kernel_rfl) (by kernel_rfl) (by kernel_rfl) (fun _ _ _ h => h) (by assumption) (by rfl) ?_
                  simp only [Act.put, List.setIfInBounds_toArray, List.set_cons_zero, List.set_cons_succ]
                  first
                    | (refine held_take 4 287 (v := ?_) rfl rfl (by kernel_rfl) (by kernel_rfl) (by kernel_rfl) (fun _ _ _ h => h) (by assumption) (by rfl) ?_ ?_; rotate_left; (focus (intro w hSw; (have y0 := (Below.cell (p := ⟨R, 0, none⟩) hSw XR.out).trans X0.out); go_simp <;> with_reducible rfl)))
                    | refine held_pass 4 287 rfl rfl (by kernel_rfl) (by kernel_rfl) (by kernel_rfl) (fun _ _ _ h => h) (by assumption) (by rfl) ?_
                  simp only [Act.put, List.setIfInBounds_toArray, List.set_cons_zero, List.set_cons_succ]
                  first
                    | (refine held_take 5 288 (v := ?_) rfl rfl (by kernel_rfl) (by kernel_rfl) (by kernel_rfl) (fun _ _ _ h => h) (by assumption) (by rfl) ?_ ?_; rotate_left; (focus (intro w hSw; (have y0 := (Below.cell (p := ⟨R, 0, none⟩) hSw XR.out).trans X0.out); go_simp <;> with_reducible rfl)))
                    | refine held_pass 5 288 rfl rfl (by kernel_rfl) (by kernel_rfl) (by kernel_rfl) (fun _ _ _ h => h) (by assumption) (by rfl) ?_
                  simp only [Act.put, List.setIfInBounds_toArray, List.set_cons_zero, List.set_cons_succ]
                  first
                    | (refine held_take 6 289 (v := ?_) rfl rfl (by kernel_rfl) (by kernel_rfl) (by kernel_rfl) (fun _ _ _ h => h) (by assumption) (by rfl) ?_ ?_; rotate_left; (focus (intro w hSw; (have y0 := (Below.cell (p := ⟨R, 0, none⟩) hSw XR.out).trans X0.out); go_simp <;> with_reducible rfl)))
                    | refine held_pass 6 289 rfl rfl (by kernel_rfl) (by kernel_rfl) (by kernel_rfl) (fun _ _ _ h => h) (by assumption) (by rfl) ?_
                  simp only [Act.put, List.setIfInBounds_toArray, List.set_cons_zero, List.set_cons_succ]
                  refine held_call 1 284 rfl rfl (by kernel_rfl) (by rfl) (fun K hK => ?_)
                  simp only [Go.wp_at_succ, Go.wp_at_zero]
                  go_simp
                  go_at_call 12
                  (with_reducible refine (HLe.out _ hHeld).mono ?_)
                  rintro e u9 ⟨rfl, rfl⟩
                  first | (with_reducible refine hK.out _ _ ?_ (fun hHeld => ?_)) | (go_wp2_with fail; refine hK.out _ _ ?_ (fun hHeld => ?_))
                  · exact hHeld
                  clear hK K
                  try simp only [Act.put, List.setIfInBounds_toArray, List.set_cons_zero, List.set_cons_succ]
                  first
                    | (refine held_take 7 290 (v := ?_) rfl rfl (by kernel_rfl) (by kernel_rfl) (by kernel_rfl) (fun _ _ _ h => h) (by assumption) (by rfl) ?_ ?_; rotate_left; (focus (intro w hSw; (have y0 := (Below.cell (p := ⟨R, 0, none⟩) hSw XR.out).trans X0.out); go_simp <;> with_reducible rfl)))
                    | refine held_pass 7 290 rfl rfl (by kernel_rfl) (by kernel_rfl) (by kernel_rfl) (fun _ _ _ h => h) (by assumption) (by rfl) ?_
                  simp only [Act.put, List.setIfInBounds_toArray, List.set_cons_zero, List.set_cons_succ]
                  refine wpAnyH_done (by kernel_rfl) ?_ _
                  clear HLe
                  go_wp2
                  go_roundw
                  case rel => exact ⟨k + 1, L.take q ++ L.drop (q + 1), by go_num, by omega, by omega, S9, GE.out.on (by go_grown)⟩
                  case measure => simp [intOf]; omega
              · as_aux_lemma =>
                  have S9 : Hid (Sm L (k + 1)) := ⟨by have := SS.out.1; omega, SS.out.2⟩
                  
                  have HT1 : Hid (∀ u, Below wc.heap.size wc u → Calls Try.prog 13 #[.pointer (some ⟨n, 0, none⟩), .int .i64 nn] u fun e w' => e = .returned (.tuple #[.int .i64 0, .int .i64 0, .slice none 0 0, .int .i64 5]) ∧ u = w') := fun u hu => g_take_no (HS.out.on hu).bag nn hr
                  have HT2 : Hid (∀ u, Below wc.heap.size wc u → Calls Try.prog 14 #[.pointer (some ⟨R, 0, none⟩), .int .i64 nn] u fun e w' => e = .returned (.tuple #[.agg #[.int .i64 0, .int .i64 0, .string ⟨#[]⟩], .bool false]) ∧ Hid (Below wc.heap.size wc w')) := fun u hu => (q_rtake_no (HS.out.on hu) nn hr).mono fun _ _ ⟨he, h⟩ => ⟨he, hu.trans (h.mono hu.size)⟩
                  clear hr
                  go_wp2_with fail
                  refine (HT1.out _ (by go_grown)).mono ?_
                  rintro e w3 ⟨rfl, rfl⟩
                  go_wp2_with fail
                  refine (HT2.out _ (by go_grown)).mono ?_
                  rintro e w4 ⟨rfl, B4⟩
                  have kx : (convert 28 9 (.slice none 0 0)).run Try.prog (w4.alloc (.cells #[.int .i64 0, .int .i64 0, .string ⟨#[]⟩] 43)) = .ok (.string ⟨#[]⟩) (w4.alloc (.cells #[.int .i64 0, .int .i64 0, .string ⟨#[]⟩] 43)) := run_conv_byt (Byt.none _ 0)
                  clear z0 z1 z2 z3 z4 HT1 HT2
                  go_wp2_with fail
                  go_upto_region 50 with fail
                  obtain ⟨wE, hE⟩ : ∃ wE, wE = (w4.alloc (.cells #[.int .i64 0, .int .i64 0, .string ⟨#[]⟩] 43)) := ⟨_, rfl⟩
                  have GE := Lib.hid (HS.out.on (B4.out.trans (show Below wc.heap.size w4 (w4.alloc (.cells #[.int .i64 0, .int .i64 0, .string ⟨#[]⟩] 43)) by have h := B4.out.size; exact ((Below.refl _ _).alloc h _))))
                  rw [← hE] at GE ⊢
                  clear hE
                  obtain ⟨xa, xc, x0, _⟩ := GE.out.cell
                  have HLe : Hid (∀ u, Below wE.heap.size wE u → Calls Try.prog 12 #[.pointer (some ⟨n, 0, none⟩)] u fun e w' => e = .returned (.int .i64 (L).length) ∧ u = w') := fun u hu => q_len (GE.out.on hu)
                  have hxr : R < wE.heap.size := by obtain ⟨_, hr⟩ := GE.out.ref; exact hr.lt
                  have X0 := Lib.hid x0
                  have XR := Lib.hid hxr
                  clear x0 hxr
                  generalize (L).length = m9 at X0 HLe
                  refine wp_region_held_drew (S := (fun u => Below wE.heap.size wE u)) (by kernel_rfl) (Below.drew (Below.refl _ _)) (fun hHeld => ?_)
                  first
                    | (refine held_take 0 283 (v := ?_) rfl rfl (by kernel_rfl) (by kernel_rfl) (by kernel_rfl) (fun _ _ _ h => h) (by assumption) (by rfl) ?_ ?_; rotate_left; (focus (intro w hSw; (have y0 := (Below.cell (p := ⟨R, 0, none⟩) hSw XR.out).trans X0.out); go_simp <;> with_reducible rfl)))
                    | refine held_pass 0 283 rfl rfl (by kernel_rfl) (by kernel_rfl) (by kernel_rfl) (fun _ _ _ h => h) (by assumption) (by rfl) ?_
                  simp only [Act.put, List.setIfInBounds_toArray, List.set_cons_zero, List.set_cons_succ]
                  first
                    | (refine held_take 2 285 (v := ?_) rfl rfl (by kernel_rfl) (by kernel_rfl) (by kernel_rfl) (fun _ _ _ h => h) (by assumption) (by rfl) ?_ ?_; rotate_left; (focus (intro w hSw; (have y0 := (Below.cell (p := ⟨R, 0, none⟩) hSw XR.out).trans X0.out); go_simp <;> with_reducible rfl)))
                    | refine held_pass 2 285 rfl rfl (by kernel_rfl) (by kernel_rfl) (by kernel_rfl) (fun _ _ _ h => h) (by assumption) (by rfl) ?_
                  simp only [Act.put, List.setIfInBounds_toArray, List.set_cons_zero, List.set_cons_succ]
                  first
                    | (refine held_take 3 286 (v := ?_) rfl rfl (by kernel_rfl) (by kernel_rfl) (by kernel_rfl) (fun _ _ _ h => h) (by assumption) (by rfl) ?_ ?_; rotate_left; (focus (intro w hSw; (have y0 := (Below.cell (p := ⟨R, 0, none⟩) hSw XR.out).trans X0.out); go_simp <;> with_reducible rfl)))
                    | refine held_pass 3 286 rfl rfl (by kernel_rfl) (by kernel_rfl) (by kernel_rfl) (fun _ _ _ h => h) (by assumption) (by rfl) ?_
                  simp only [Act.put, List.setIfInBounds_toArray, List.set_cons_zero, List.set_cons_succ]
                  first
                    | (refine held_take 4 287 (v := ?_) rfl rfl (by kernel_rfl) (by kernel_rfl) (by kernel_rfl) (fun _ _ _ h => h) (by assumption) (by rfl) ?_ ?_; rotate_left; (focus (intro w hSw; (have y0 := (Below.cell (p := ⟨R, 0, none⟩) hSw XR.out).trans X0.out); go_simp <;> with_reducible rfl)))
                    | refine held_pass 4 287 rfl rfl (by kernel_rfl) (by kernel_rfl) (by kernel_rfl) (fun _ _ _ h => h) (by assumption) (by rfl) ?_
                  simp only [Act.put, List.setIfInBounds_toArray, List.set_cons_zero, List.set_cons_succ]
                  first
                    | (refine held_take 5 288 (v := ?_) rfl rfl (by kernel_rfl) (by kernel_rfl) (by kernel_rfl) (fun _ _ _ h => h) (by assumption) (by rfl) ?_ ?_; rotate_left; (focus (intro w hSw; (have y0 := (Below.cell (p := ⟨R, 0, none⟩) hSw XR.out).trans X0.out); go_simp <;> with_reducible rfl)))
                    | refine held_pass 5 288 rfl rfl (by kernel_rfl) (by kernel_rfl) (by kernel_rfl) (fun _ _ _ h => h) (by assumption) (by rfl) ?_
                  simp only [Act.put, List.setIfInBounds_toArray, List.set_cons_zero, List.set_cons_succ]
                  first
                    | (refine held_take 6 289 (v := ?_) rfl rfl (by kernel_rfl) (by kernel_rfl) (by kernel_rfl) (fun _ _ _ h => h) (by assumption) (by rfl) ?_ ?_; rotate_left; (focus (intro w hSw; (have y0 := (Below.cell (p := ⟨R, 0, none⟩) hSw XR.out).trans X0.out); go_simp <;> with_reducible rfl)))
                    | refine held_pass 6 289 rfl rfl (by kernel_rfl) (by kernel_rfl) (by kernel_rfl) (fun _ _ _ h => h) (by assumption) (by rfl) ?_
                  simp only [Act.put, List.setIfInBounds_toArray, List.set_cons_zero, List.set_cons_succ]
                  refine held_call 1 284 rfl rfl (by kernel_rfl) (by rfl) (fun K hK => ?_)
                  simp only [Go.wp_at_succ, Go.wp_at_zero]
                  go_simp
                  go_at_call 12
                  (with_reducible refine (HLe.out _ hHeld).mono ?_)
                  rintro e u9 ⟨rfl, rfl⟩
                  first | (with_reducible refine hK.out _ _ ?_ (fun hHeld => ?_)) | (go_wp2_with fail; refine hK.out _ _ ?_ (fun hHeld => ?_))
                  · exact hHeld
                  clear hK K
                  try simp only [Act.put, List.setIfInBounds_toArray, List.set_cons_zero, List.set_cons_succ]
                  first
                    | (refine held_take 7 290 (v := ?_) rfl rfl (by kernel_rfl) (by kernel_rfl) (by kernel_rfl) (fun _ _ _ h => h) (by assumption) (by rfl) ?_ ?_; rotate_left; (focus (intro w hSw; (have y0 := (Below.cell (p := ⟨R, 0, none⟩) hSw XR.out).trans X0.out); go_simp <;> with_reducible rfl)))
                    | refine held_pass 7 290 rfl rfl (by kernel_rfl) (by kernel_rfl) (by kernel_rfl) (fun _ _ _ h => h) (by assumption) (by rfl) ?_
                  simp only [Act.put, List.setIfInBounds_toArray, List.set_cons_zero, List.set_cons_succ]
                  refine wpAnyH_done (by kernel_rfl) ?_ _
                  clear HLe
                  go_wp2
                  go_roundw
                  case rel => exact ⟨k + 1, L, by go_num, by omega, by omega, S9, GE.out.on (by go_grown)⟩
                  case measure => simp [intOf]; omega
            · have b1 : (kd == 1) = false := beq_eq_false_iff_ne.2 e1
              by_cases e2 : kd = 2
              · subst e2
                by_cases hr : 0 ≤ nn ∧ nn < (L.length : Int)
                · as_aux_lemma =>
                    obtain ⟨q, rfl⟩ : ∃ q : Nat, nn = (q : Int) := ⟨nn.toNat, by omega⟩
                    have hq : q < L.length := by omega
                    have hLl : L.length ≤ 80 := by have := SS.out.1; omega
                    have hmem := mAt_mem hq
                    have hsz := SS.out.2 _ hmem
                    
                    have HT1 : Hid (∀ u, Below wc.heap.size wc u → Calls Try.prog 15 #[.pointer (some ⟨n, 0, none⟩), .int .i64 q] u fun e w' => e = .returned (.int .i64 0) ∧ Hid (GPl n w R (L ++ [mAt L q]) L w') ∧ Hid (StpG w' p 2 q fr td (.slice ba bl.length bc))) := fun u hu =>
                      (q_double (HS.out.on hu) q hq (by omega)).mono fun _ _ ⟨he, h1, h2⟩ => ⟨he, h1, (HP.out.ka (.of hu)).ka h2⟩
                    have S9 : Hid (Sm (L ++ [mAt L q]) (k + 1)) := ⟨by rw [List.length_append]; have := SS.out.1; simp; omega, fun m hm => by
                      rcases List.mem_append.1 hm with h | h
                      · exact SS.out.2 m h
                      · rw [List.mem_singleton.1 h]; exact hsz⟩
                    have HRA : Hid (∀ u, GPl n w R (L ++ [mAt L q]) L u → ∃ a c a' c' w', u.cell? ⟨R, 0, none⟩ = some (.slice (some a) L.length c) ∧ (u.cell? ⟨a.block, q * 3, none⟩ = some (.int .i64 (mAt L q).fr) ∧ u.cell? ⟨a.block, q * 3 + 1, none⟩ = some (.int .i64 (mAt L q).to) ∧ u.cell? ⟨a.block, q * 3 + 2, none⟩ = some (.string (mAt L q).tx)) ∧ a = ⟨a.block, 0, none⟩ ∧ a.block < u.heap.size ∧ R < u.heap.size ∧ w'.cell? ⟨R, 0, none⟩ = some (.slice (some a) L.length c) ∧ w'.frozen? ⟨R, 0, none⟩ = false ∧
                      (Builtin.append_ #[37, 37] 37 #[.slice (some a) L.length c, .slice (some ⟨u.heap.size, 0, none⟩) 1 1]).run Try.prog (u.alloc (.cells #[.int .i64 (mAt L q).fr, .int .i64 (mAt L q).to, .string (mAt L q).tx] 43)).drew = .ok (.slice a' (L.length + 1) c') w' ∧
                      Hid (GPl n w R (L ++ [mAt L q]) (L ++ [mAt L q]) (w'.setCell ⟨R, 0, none⟩ (.slice a' (L.length + 1) c'))) ∧ Hid (KA u (w'.setCell ⟨R, 0, none⟩ (.slice a' (L.length + 1) c'))) ∧ Hid (Below n w w' ∧ KA u w')) := fun u hu => by
                      obtain ⟨a, c, a', c', w', h1, h2, h3, h4, h5, h6, h7, h8⟩ := q_rappend hu (mAt L q) (by omega)
                      obtain ⟨v, hr⟩ := hu.ref
                      have hc := hr.cells.1.symm.trans h1
                      simp only [Option.some.injEq] at hc
                      subst hc
                      obtain ⟨b, c2, hv, _, _, _, hbl, hcc⟩ := hr.at (by omega)
                      simp only [Value.slice.injEq, true_and] at hv
                      obtain ⟨rfl, rfl⟩ := hv
                      have hg := rowC_get L q hq
                      exact ⟨_, _, a', c', w', h1, ⟨hcc _ _ hg.1, hcc _ _ hg.2.1, hcc _ _ hg.2.2⟩, rfl, hbl, h2, h3, h4, h5, h6, h7, h8⟩
                    have q1 : (q : Int) < (L.length : Int) := by omega
                    obtain ⟨f1, hf1⟩ : ∃ f, f = (mAt L q).fr := ⟨_, rfl⟩
                    obtain ⟨f2, hf2⟩ : ∃ f, f = (mAt L q).to := ⟨_, rfl⟩
                    obtain ⟨f3, hf3⟩ : ∃ f, f = (mAt L q).tx := ⟨_, rfl⟩
                    rw [← hf1, ← hf2, ← hf3] at HRA
                    clear hf1 hf2 hf3 hmem hsz hr hq hLl
                    have q0 : (0 : Int) ≤ (q : Int) := by omega
                    go_wp2_with fail
                    refine (HT1.out _ (by go_grown)).mono ?_
                    rintro e w3 ⟨rfl, G3, P3⟩
                    obtain ⟨z0, z1, z2, z3, z4⟩ := P3.out.cells
                    obtain ⟨xa, xc, x0, _⟩ := G3.out.cell
                    clear HT1
                    have GQ := Lib.hid (fun j => G3.out.drewN j)
                    clear G3
                    generalize L.length = m7 at x0 HRA q1
                    have d0 : decide ((0 : Int) ≤ (q : Int)) = true := by simp
                    have d1 : decide ((q : Int) < (m7 : Int)) = true := by simp; omega
                    go_upto_region 38 with fail
                    go_quiet (fail)
                    go_upto_region 41 with fail
                    obtain ⟨a5, c5, a6, c6, w6, u0, ⟨v0, v1, v2⟩, ha5, hbl5, hlt5, x1, x2, hrun, G6, K6, B6⟩ := HRA.out _ (GQ.out nq)
                    obtain ⟨b5, o5, s5⟩ := a5
                    simp only [Addr.mk.injEq, true_and] at ha5
                    obtain ⟨rfl, rfl⟩ := ha5
                    dsimp only at v0 v1 v2 hbl5
                    obtain ⟨wq, hwq⟩ : ∃ wq, wq = w3.drewN nq := ⟨_, rfl⟩
                    rw [← hwq] at u0 v0 v1 v2 hbl5 hlt5 hrun B6 K6 ⊢
                    have BQ : Hid (Below w3.heap.size w3 wq) := Lib.hid (by rw [hwq]; exact ⟨rfl, rfl, rfl, Nat.le_refl _, fun _ _ => rfl⟩)
                    have P0 := Lib.hid (P3.out.ka (.of BQ.out.drew))
                    have P1 := Lib.hid (P3.out.ka (.of (BQ.out.alloc BQ.out.size (.cells #[.int .i64 f1, .int .i64 f2, .string f3] 43)).drew))
                    have P2 := Lib.hid (P3.out.ka (.of BQ.out))
                    have GB : Hid (Below n w wq) := Lib.hid (by rw [hwq]; exact (GQ.out nq).bag.bel)
                    have GN : Hid (n ≤ wq.heap.size) := Lib.hid (by rw [hwq]; exact (GQ.out nq).bag.size)
                    have HS0 : Hid (Below n w wq.drew ∧ StpG wq.drew p 2 q fr td (.slice ba bl.length bc)) := ⟨GB.out.drew, P0.out⟩
                    have HS1 : Hid (Below n w (wq.alloc (.cells #[.int .i64 f1, .int .i64 f2, .string f3] 43)).drew ∧ StpG (wq.alloc (.cells #[.int .i64 f1, .int .i64 f2, .string f3] 43)).drew p 2 q fr td (.slice ba bl.length bc)) := ⟨(GB.out.alloc GN.out _).drew, P1.out⟩
                    have HS2 : Hid (Below n w w6 ∧ StpG w6 p 2 q fr td (.slice ba bl.length bc)) := ⟨B6.out.1, P2.out.ka B6.out.2⟩
                    have HS3 : Hid (Below n w (w6.setCell ⟨R, 0, none⟩ (.slice a6 (m7 + 1) c6)) ∧ StpG (w6.setCell ⟨R, 0, none⟩ (.slice a6 (m7 + 1) c6)) p 2 q fr td (.slice ba bl.length bc)) := ⟨G6.out.bag.bel, P2.out.ka K6.out⟩
                    clear hwq HRA GQ x0 z0 z1 z2 z3 z4 P3 d0 d1 P0 P1 P2 GB GN B6 K6
                    apply use_it
                    case h =>
                      intro hk
                      refine wp_region_held_drew (S := fun u => Below n w u ∧ StpG u p 2 q fr td (.slice ba bl.length bc)) (by kernel_rfl) HS0.out (fun hHeld => ?_)
                      first
                        | (refine held_take 0 229 (v := ?_) rfl rfl (by kernel_rfl) (by kernel_rfl) (by kernel_rfl) (fun _ _ _ h => h) (by assumption) (by rfl) ?_ ?_; rotate_left; (focus (intro w hSw; (obtain ⟨y0, y1, y2, y3, y4⟩ := StpG.cells hSw.2); go_simp <;> with_reducible rfl)))
                        | refine held_pass 0 229 rfl rfl (by kernel_rfl) (by kernel_rfl) (by kernel_rfl) (fun _ _ _ h => h) (by assumption) (by rfl) ?_
                      simp only [Act.put, List.setIfInBounds_toArray, List.set_cons_zero, List.set_cons_succ]
                      first
                        | (refine held_take 1 230 (v := ?_) rfl rfl (by kernel_rfl) (by kernel_rfl) (by kernel_rfl) (fun _ _ _ h => h) (by assumption) (by rfl) ?_ ?_; rotate_left; (focus (intro w hSw; (obtain ⟨y0, y1, y2, y3, y4⟩ := StpG.cells hSw.2); go_simp <;> with_reducible rfl)))
                        | refine held_pass 1 230 rfl rfl (by kernel_rfl) (by kernel_rfl) (by kernel_rfl) (fun _ _ _ h => h) (by assumption) (by rfl) ?_
                      simp only [Act.put, List.setIfInBounds_toArray, List.set_cons_zero, List.set_cons_succ]
                      first
                        | (refine held_take 2 231 (v := ?_) rfl rfl (by kernel_rfl) (by kernel_rfl) (by kernel_rfl) (fun _ _ _ h => h) (by assumption) (by rfl) ?_ ?_; rotate_left; (focus (intro w hSw; (obtain ⟨y0, y1, y2, y3, y4⟩ := StpG.cells hSw.2); go_simp <;> with_reducible rfl)))
                        | refine held_pass 2 231 rfl rfl (by kernel_rfl) (by kernel_rfl) (by kernel_rfl) (fun _ _ _ h => h) (by assumption) (by rfl) ?_
                      simp only [Act.put, List.setIfInBounds_toArray, List.set_cons_zero, List.set_cons_succ]
                      first
                        | (refine held_take 3 232 (v := ?_) rfl rfl (by kernel_rfl) (by kernel_rfl) (by kernel_rfl) (fun _ _ _ h => h) (by assumption) (by rfl) ?_ ?_; rotate_left; (focus (intro w hSw; (obtain ⟨y0, y1, y2, y3, y4⟩ := StpG.cells hSw.2); go_simp <;> with_reducible rfl)))
                        | refine held_pass 3 232 rfl rfl (by kernel_rfl) (by kernel_rfl) (by kernel_rfl) (fun _ _ _ h => h) (by assumption) (by rfl) ?_
                      simp only [Act.put, List.setIfInBounds_toArray, List.set_cons_zero, List.set_cons_succ]
                      first
                        | (refine held_take 5 234 (v := ?_) rfl rfl (by kernel_rfl) (by kernel_rfl) (by kernel_rfl) (fun _ _ _ h => h) (by assumption) (by rfl) ?_ ?_; rotate_left; (focus (intro w hSw; (obtain ⟨y0, y1, y2, y3, y4⟩ := StpG.cells hSw.2); go_simp <;> with_reducible rfl)))
                        | refine held_pass 5 234 rfl rfl (by kernel_rfl) (by kernel_rfl) (by kernel_rfl) (fun _ _ _ h => h) (by assumption) (by rfl) ?_
                      simp only [Act.put, List.setIfInBounds_toArray, List.set_cons_zero, List.set_cons_succ]
                      first
                        | (refine held_take 6 235 (v := ?_) rfl rfl (by kernel_rfl) (by kernel_rfl) (by kernel_rfl) (fun _ _ _ h => h) (by assumption) (by rfl) ?_ ?_; rotate_left; (focus (intro w hSw; (obtain ⟨y0, y1, y2, y3, y4⟩ := StpG.cells hSw.2); go_simp <;> with_reducible rfl)))
                        | refine held_pass 6 235 rfl rfl (by kernel_rfl) (by kernel_rfl) (by kernel_rfl) (fun _ _ _ h => h) (by assumption) (by rfl) ?_
                      simp only [Act.put, List.setIfInBounds_toArray, List.set_cons_zero, List.set_cons_succ]
                      first
                        | (refine held_take 7 236 (v := ?_) rfl rfl (by kernel_rfl) (by kernel_rfl) (by kernel_rfl) (fun _ _ _ h => h) (by assumption) (by rfl) ?_ ?_; rotate_left; (focus (intro w hSw; (obtain ⟨y0, y1, y2, y3, y4⟩ := StpG.cells hSw.2); go_simp <;> with_reducible rfl)))
                        | refine held_pass 7 236 rfl rfl (by kernel_rfl) (by kernel_rfl) (by kernel_rfl) (fun _ _ _ h => h) (by assumption) (by rfl) ?_
                      simp only [Act.put, List.setIfInBounds_toArray, List.set_cons_zero, List.set_cons_succ]
                      first
                        | (refine held_take 9 238 (v := ?_) rfl rfl (by kernel_rfl) (by kernel_rfl) (by kernel_rfl) (fun _ _ _ h => h) (by assumption) (by rfl) ?_ ?_; rotate_left; (focus (intro w hSw; (obtain ⟨y0, y1, y2, y3, y4⟩ := StpG.cells hSw.2); go_simp <;> with_reducible rfl)))
                        | refine held_pass 9 238 rfl rfl (by kernel_rfl) (by kernel_rfl) (by kernel_rfl) (fun _ _ _ h => h) (by assumption) (by rfl) ?_
                      simp only [Act.put, List.setIfInBounds_toArray, List.set_cons_zero, List.set_cons_succ]
                      first
                        | (refine held_take 10 239 (v := ?_) rfl rfl (by kernel_rfl) (by kernel_rfl) (by kernel_rfl) (fun _ _ _ h => h) (by assumption) (by rfl) ?_ ?_; rotate_left; (focus (intro w hSw; (obtain ⟨y0, y1, y2, y3, y4⟩ := StpG.cells hSw.2); go_simp <;> with_reducible rfl)))
                        | refine held_pass 10 239 rfl rfl (by kernel_rfl) (by kernel_rfl) (by kernel_rfl) (fun _ _ _ h => h) (by assumption) (by rfl) ?_
                      simp only [Act.put, List.setIfInBounds_toArray, List.set_cons_zero, List.set_cons_succ]
                      refine wpAnyH_ready (rs := [4, 8]) (by kernel_rfl) (by simp) (AllReadyH.cons rfl (fun K hK => ?_) (AllReadyH.cons rfl (fun K hK => ?_) AllReadyH.nil))
                      · simp only [Go.wp_at_succ, Go.wp_at_zero]
                        go_simp
                        with_reducible refine hK.out _ _ HS0.out (fun hHeld => ?_)
                        clear hK K
                        try simp only [Act.put, List.setIfInBounds_toArray, List.set_cons_zero, List.set_cons_succ]
                        refine wpAnyH_ready (rs := [8]) (by kernel_rfl) (by simp) (AllReadyH.cons rfl (fun K hK => ?_) AllReadyH.nil)
                        simp only [Go.wp_at_succ, Go.wp_at_zero]
                        go_simp
                        with_reducible refine hK.out _ _ HS0.out (fun hHeld => ?_)
                        clear hK K
                        try simp only [Act.put, List.setIfInBounds_toArray, List.set_cons_zero, List.set_cons_succ]
                        first
                          | (refine held_take 11 240 (v := ?_) rfl rfl (by kernel_rfl) (by kernel_rfl) (by kernel_rfl) (fun _ _ _ h => h) (by assumption) (by rfl) ?_ ?_; rotate_left; (focus (intro w hSw; (obtain ⟨y0, y1, y2, y3, y4⟩ := StpG.cells hSw.2); go_simp <;> with_reducible rfl)))
                          | refine held_pass 11 240 rfl rfl (by kernel_rfl) (by kernel_rfl) (by kernel_rfl) (fun _ _ _ h => h) (by assumption) (by rfl) ?_
                        simp only [Act.put, List.setIfInBounds_toArray, List.set_cons_zero, List.set_cons_succ]
                        refine wpAnyH_ready (rs := [12]) (by kernel_rfl) (by simp) (AllReadyH.cons rfl (fun K hK => ?_) AllReadyH.nil)
                        simp only [Go.wp_at_succ, Go.wp_at_zero]
                        go_simp
                        with_reducible refine hK.out _ _ HS0.out (fun hHeld => ?_)
                        clear hK K
                        try simp only [Act.put, List.setIfInBounds_toArray, List.set_cons_zero, List.set_cons_succ]
                        refine wpAnyH_ready (rs := [13]) (by kernel_rfl) (by simp) (AllReadyH.cons rfl (fun K hK => ?_) AllReadyH.nil)
                        simp only [Go.wp_at_succ, Go.wp_at_zero]
                        go_simp
                        with_reducible refine hK.out _ _ HS1.out (fun hHeld => ?_)
                        clear hK K
                        try simp only [Act.put, List.setIfInBounds_toArray, List.set_cons_zero, List.set_cons_succ]
                        refine wpAnyH_ready (rs := [14]) (by kernel_rfl) (by simp) (AllReadyH.cons rfl (fun K hK => ?_) AllReadyH.nil)
                        refine step_append_run rfl (.tmp 233) (.tmp 242) 37 37 rfl (.slice (some ⟨b5, 0, none⟩) m7 c5) (.slice (some ⟨wq.heap.size, 0, none⟩) 1 1) (.slice a6 (m7 + 1) c6) w6 rfl rfl hrun ?_
                        with_reducible refine hK.out _ _ HS2.out (fun hHeld => ?_)
                        clear hK K
                        try simp only [Act.put, List.setIfInBounds_toArray]
                        first
                          | (refine held_take 15 244 (v := ?_) rfl rfl (by kernel_rfl) (by kernel_rfl) (by kernel_rfl) (fun _ _ _ h => h) (by assumption) (by rfl) ?_ ?_; rotate_left; (focus (intro w hSw; (obtain ⟨y0, y1, y2, y3, y4⟩ := StpG.cells hSw.2); go_simp <;> with_reducible rfl)))
                          | refine held_pass 15 244 rfl rfl (by kernel_rfl) (by kernel_rfl) (by kernel_rfl) (fun _ _ _ h => h) (by assumption) (by rfl) ?_
                        simp only [Act.put]
                        first
                          | (refine held_take 16 245 (v := ?_) rfl rfl (by kernel_rfl) (by kernel_rfl) (by kernel_rfl) (fun _ _ _ h => h) (by assumption) (by rfl) ?_ ?_; rotate_left; (focus (intro w hSw; (obtain ⟨y0, y1, y2, y3, y4⟩ := StpG.cells hSw.2); go_simp <;> with_reducible rfl)))
                          | refine held_pass 16 245 rfl rfl (by kernel_rfl) (by kernel_rfl) (by kernel_rfl) (fun _ _ _ h => h) (by assumption) (by rfl) ?_
                        simp only [Act.put]
                        refine wpAnyH_ready (rs := [17]) (by kernel_rfl) (by simp) (AllReadyH.cons rfl (fun K hK => ?_) AllReadyH.nil)
                        simp only [Go.wp_at_succ, Go.wp_at_zero]
                        go_simp
                        with_reducible refine hK.out _ _ HS3.out (fun hHeld => ?_)
                        clear hK K
                        try simp only [Act.put, List.setIfInBounds_toArray, List.set_cons_zero, List.set_cons_succ]
                        refine wpAnyH_done (by kernel_rfl) ?_ _
                        exact hk
                      · simp only [Go.wp_at_succ, Go.wp_at_zero]
                        go_simp
                        with_reducible refine hK.out _ _ HS0.out (fun hHeld => ?_)
                        clear hK K
                        try simp only [Act.put, List.setIfInBounds_toArray, List.set_cons_zero, List.set_cons_succ]
                        first
                          | (refine held_take 11 240 (v := ?_) rfl rfl (by kernel_rfl) (by kernel_rfl) (by kernel_rfl) (fun _ _ _ h => h) (by assumption) (by rfl) ?_ ?_; rotate_left; (focus (intro w hSw; (obtain ⟨y0, y1, y2, y3, y4⟩ := StpG.cells hSw.2); go_simp <;> with_reducible rfl)))
                          | refine held_pass 11 240 rfl rfl (by kernel_rfl) (by kernel_rfl) (by kernel_rfl) (fun _ _ _ h => h) (by assumption) (by rfl) ?_
                        simp only [Act.put, List.setIfInBounds_toArray, List.set_cons_zero, List.set_cons_succ]
                        refine wpAnyH_ready (rs := [4, 12]) (by kernel_rfl) (by simp) (AllReadyH.cons rfl (fun K hK => ?_) (AllReadyH.cons rfl (fun K hK => ?_) AllReadyH.nil))
                        · simp only [Go.wp_at_succ, Go.wp_at_zero]
                          go_simp
                          with_reducible refine hK.out _ _ HS0.out (fun hHeld => ?_)
                          clear hK K
                          try simp only [Act.put, List.setIfInBounds_toArray, List.set_cons_zero, List.set_cons_succ]
                          refine wpAnyH_ready (rs := [12]) (by kernel_rfl) (by simp) (AllReadyH.cons rfl (fun K hK => ?_) AllReadyH.nil)
                          simp only [Go.wp_at_succ, Go.wp_at_zero]
                          go_simp
                          with_reducible refine hK.out _ _ HS0.out (fun hHeld => ?_)
                          clear hK K
                          try simp only [Act.put, List.setIfInBounds_toArray, List.set_cons_zero, List.set_cons_succ]
                          refine wpAnyH_ready (rs := [13]) (by kernel_rfl) (by simp) (AllReadyH.cons rfl (fun K hK => ?_) AllReadyH.nil)
                          simp only [Go.wp_at_succ, Go.wp_at_zero]
                          go_simp
                          with_reducible refine hK.out _ _ HS1.out (fun hHeld => ?_)
                          clear hK K
                          try simp only [Act.put, List.setIfInBounds_toArray, List.set_cons_zero, List.set_cons_succ]
                          refine wpAnyH_ready (rs := [14]) (by kernel_rfl) (by simp) (AllReadyH.cons rfl (fun K hK => ?_) AllReadyH.nil)
                          refine step_append_run rfl (.tmp 233) (.tmp 242) 37 37 rfl (.slice (some ⟨b5, 0, none⟩) m7 c5) (.slice (some ⟨wq.heap.size, 0, none⟩) 1 1) (.slice a6 (m7 + 1) c6) w6 rfl rfl hrun ?_
                          with_reducible refine hK.out _ _ HS2.out (fun hHeld => ?_)
                          clear hK K
                          try simp only [Act.put, List.setIfInBounds_toArray]
                          first
                            | (refine held_take 15 244 (v := ?_) rfl rfl (by kernel_rfl) (by kernel_rfl) (by kernel_rfl) (fun _ _ _ h => h) (by assumption) (by rfl) ?_ ?_; rotate_left; (focus (intro w hSw; (obtain ⟨y0, y1, y2, y3, y4⟩ := StpG.cells hSw.2); go_simp <;> with_reducible rfl)))
                            | refine held_pass 15 244 rfl rfl (by kernel_rfl) (by kernel_rfl) (by kernel_rfl) (fun _ _ _ h => h) (by assumption) (by rfl) ?_
                          simp only [Act.put]
                          first
                            | (refine held_take 16 245 (v := ?_) rfl rfl (by kernel_rfl) (by kernel_rfl) (by kernel_rfl) (fun _ _ _ h => h) (by assumption) (by rfl) ?_ ?_; rotate_left; (focus (intro w hSw; (obtain ⟨y0, y1, y2, y3, y4⟩ := StpG.cells hSw.2); go_simp <;> with_reducible rfl)))
                            | refine held_pass 16 245 rfl rfl (by kernel_rfl) (by kernel_rfl) (by kernel_rfl) (fun _ _ _ h => h) (by assumption) (by rfl) ?_
                          simp only [Act.put]
                          refine wpAnyH_ready (rs := [17]) (by kernel_rfl) (by simp) (AllReadyH.cons rfl (fun K hK => ?_) AllReadyH.nil)
                          simp only [Go.wp_at_succ, Go.wp_at_zero]
                          go_simp
                          with_reducible refine hK.out _ _ HS3.out (fun hHeld => ?_)
                          clear hK K
                          try simp only [Act.put, List.setIfInBounds_toArray, List.set_cons_zero, List.set_cons_succ]
                          refine wpAnyH_done (by kernel_rfl) ?_ _
                          exact hk
                        · simp only [Go.wp_at_succ, Go.wp_at_zero]
                          go_simp
                          with_reducible refine hK.out _ _ HS0.out (fun hHeld => ?_)
                          clear hK K
                          try simp only [Act.put, List.setIfInBounds_toArray, List.set_cons_zero, List.set_cons_succ]
                          refine wpAnyH_ready (rs := [4, 13]) (by kernel_rfl) (by simp) (AllReadyH.cons rfl (fun K hK => ?_) (AllReadyH.cons rfl (fun K hK => ?_) AllReadyH.nil))
                          · simp only [Go.wp_at_succ, Go.wp_at_zero]
                            go_simp
                            with_reducible refine hK.out _ _ HS0.out (fun hHeld => ?_)
                            clear hK K
                            try simp only [Act.put, List.setIfInBounds_toArray, List.set_cons_zero, List.set_cons_succ]
                            refine wpAnyH_ready (rs := [13]) (by kernel_rfl) (by simp) (AllReadyH.cons rfl (fun K hK => ?_) AllReadyH.nil)
                            simp only [Go.wp_at_succ, Go.wp_at_zero]
                            go_simp
                            with_reducible refine hK.out _ _ HS1.out (fun hHeld => ?_)
                            clear hK K
                            try simp only [Act.put, List.setIfInBounds_toArray, List.set_cons_zero, List.set_cons_succ]
                            refine wpAnyH_ready (rs := [14]) (by kernel_rfl) (by simp) (AllReadyH.cons rfl (fun K hK => ?_) AllReadyH.nil)
                            refine step_append_run rfl (.tmp 233) (.tmp 242) 37 37 rfl (.slice (some ⟨b5, 0, none⟩) m7 c5) (.slice (some ⟨wq.heap.size, 0, none⟩) 1 1) (.slice a6 (m7 + 1) c6) w6 rfl rfl hrun ?_
                            with_reducible refine hK.out _ _ HS2.out (fun hHeld => ?_)
                            clear hK K
                            try simp only [Act.put, List.setIfInBounds_toArray]
                            first
                              | (refine held_take 15 244 (v := ?_) rfl rfl (by kernel_rfl) (by kernel_rfl) (by kernel_rfl) (fun _ _ _ h => h) (by assumption) (by rfl) ?_ ?_; rotate_left; (focus (intro w hSw; (obtain ⟨y0, y1, y2, y3, y4⟩ := StpG.cells hSw.2); go_simp <;> with_reducible rfl)))
                              | refine held_pass 15 244 rfl rfl (by kernel_rfl) (by kernel_rfl) (by kernel_rfl) (fun _ _ _ h => h) (by assumption) (by rfl) ?_
                            simp only [Act.put]
                            first
                              | (refine held_take 16 245 (v := ?_) rfl rfl (by kernel_rfl) (by kernel_rfl) (by kernel_rfl) (fun _ _ _ h => h) (by assumption) (by rfl) ?_ ?_; rotate_left; (focus (intro w hSw; (obtain ⟨y0, y1, y2, y3, y4⟩ := StpG.cells hSw.2); go_simp <;> with_reducible rfl)))
                              | refine held_pass 16 245 rfl rfl (by kernel_rfl) (by kernel_rfl) (by kernel_rfl) (fun _ _ _ h => h) (by assumption) (by rfl) ?_
                            simp only [Act.put]
                            refine wpAnyH_ready (rs := [17]) (by kernel_rfl) (by simp) (AllReadyH.cons rfl (fun K hK => ?_) AllReadyH.nil)
                            simp only [Go.wp_at_succ, Go.wp_at_zero]
                            go_simp
                            with_reducible refine hK.out _ _ HS3.out (fun hHeld => ?_)
                            clear hK K
                            try simp only [Act.put, List.setIfInBounds_toArray, List.set_cons_zero, List.set_cons_succ]
                            refine wpAnyH_done (by kernel_rfl) ?_ _
                            exact hk
                          · simp only [Go.wp_at_succ, Go.wp_at_zero]
                            go_simp
                            with_reducible refine hK.out _ _ HS1.out (fun hHeld => ?_)
                            clear hK K
                            try simp only [Act.put, List.setIfInBounds_toArray, List.set_cons_zero, List.set_cons_succ]
                            refine wpAnyH_ready (rs := [4]) (by kernel_rfl) (by simp) (AllReadyH.cons rfl (fun K hK => ?_) AllReadyH.nil)
                            simp only [Go.wp_at_succ, Go.wp_at_zero]
                            go_simp
                            with_reducible refine hK.out _ _ HS1.out (fun hHeld => ?_)
                            clear hK K
                            try simp only [Act.put, List.setIfInBounds_toArray, List.set_cons_zero, List.set_cons_succ]
                            refine wpAnyH_ready (rs := [14]) (by kernel_rfl) (by simp) (AllReadyH.cons rfl (fun K hK => ?_) AllReadyH.nil)
                            refine step_append_run rfl (.tmp 233) (.tmp 242) 37 37 rfl (.slice (some ⟨b5, 0, none⟩) m7 c5) (.slice (some ⟨wq.heap.size, 0, none⟩) 1 1) (.slice a6 (m7 + 1) c6) w6 rfl rfl hrun ?_
                            with_reducible refine hK.out _ _ HS2.out (fun hHeld => ?_)
                            clear hK K
                            try simp only [Act.put, List.setIfInBounds_toArray]
                            first
                              | (refine held_take 15 244 (v := ?_) rfl rfl (by kernel_rfl) (by kernel_rfl) (by kernel_rfl) (fun _ _ _ h => h) (by assumption) (by rfl) ?_ ?_; rotate_left; (focus (intro w hSw; (obtain ⟨y0, y1, y2, y3, y4⟩ := StpG.cells hSw.2); go_simp <;> with_reducible rfl)))
                              | refine held_pass 15 244 rfl rfl (by kernel_rfl) (by kernel_rfl) (by kernel_rfl) (fun _ _ _ h => h) (by assumption) (by rfl) ?_
                            simp only [Act.put]
                            first
                              | (refine held_take 16 245 (v := ?_) rfl rfl (by kernel_rfl) (by kernel_rfl) (by kernel_rfl) (fun _ _ _ h => h) (by assumption) (by rfl) ?_ ?_; rotate_left; (focus (intro w hSw; (obtain ⟨y0, y1, y2, y3, y4⟩ := StpG.cells hSw.2); go_simp <;> with_reducible rfl)))
                              | refine held_pass 16 245 rfl rfl (by kernel_rfl) (by kernel_rfl) (by kernel_rfl) (fun _ _ _ h => h) (by assumption) (by rfl) ?_
                            simp only [Act.put]
                            refine wpAnyH_ready (rs := [17]) (by kernel_rfl) (by simp) (AllReadyH.cons rfl (fun K hK => ?_) AllReadyH.nil)
                            simp only [Go.wp_at_succ, Go.wp_at_zero]
                            go_simp
                            with_reducible refine hK.out _ _ HS3.out (fun hHeld => ?_)
                            clear hK K
                            try simp only [Act.put, List.setIfInBounds_toArray, List.set_cons_zero, List.set_cons_succ]
                            refine wpAnyH_done (by kernel_rfl) ?_ _
                            exact hk
                    case g =>
                      clear HS0 HS1 HS2 HS3 hrun u0 x1 x2 v0 v1 v2
                      obtain ⟨wE, hE⟩ : ∃ wE, wE = (w6.setCell ⟨R, 0, none⟩ (.slice a6 (m7 + 1) c6)) := ⟨_, rfl⟩
                      have GE := G6
                      rw [← hE] at GE ⊢
                      clear hE
                      obtain ⟨xa, xc, x0, _⟩ := GE.out.cell
                      have HLe : Hid (∀ u, Below wE.heap.size wE u → Calls Try.prog 12 #[.pointer (some ⟨n, 0, none⟩)] u fun e w' => e = .returned (.int .i64 (L ++ [mAt L q]).length) ∧ u = w') := fun u hu => q_len (GE.out.on hu)
                      have hxr : R < wE.heap.size := by obtain ⟨_, hr⟩ := GE.out.ref; exact hr.lt
                      have X0 := Lib.hid x0
                      have XR := Lib.hid hxr
                      clear x0 hxr
                      generalize (L ++ [mAt L q]).length = m9 at X0 HLe
                      go_upto_region 50 with fail
                      refine wp_region_held_drew (S := (fun u => Below wE.heap.size wE u)) (by kernel_rfl) (Below.drew (Below.refl _ _)) (fun hHeld => ?_)
                      first
                        | (refine held_take 0 283 (v := ?_) rfl rfl (by kernel_rfl) (by kernel_rfl) (by kernel_rfl) (fun _ _ _ h => h) (by assumption) (by rfl) ?_ ?_; rotate_left; (focus (intro w hSw; (have y0 := (Below.cell (p := ⟨R, 0, none⟩) hSw XR.out).trans X0.out); go_simp <;> with_reducible rfl)))
                        | refine held_pass 0 283 rfl rfl (by kernel_rfl) (by kernel_rfl) (by kernel_rfl) (fun _ _ _ h => h) (by assumption) (by rfl) ?_
                      simp only [Act.put, List.setIfInBounds_toArray, List.set_cons_zero, List.set_cons_succ]
                      first
                        | (refine held_take 2 285 (v := ?_) rfl rfl (by kernel_rfl) (by kernel_rfl) (by kernel_rfl) (fun _ _ _ h => h) (by assumption) (by rfl) ?_ ?_; rotate_left; (focus (intro w hSw; (have y0 := (Below.cell (p := ⟨R, 0, none⟩) hSw XR.out).trans X0.out); go_simp <;> with_reducible rfl)))
                        | refine held_pass 2 285 rfl rfl (by kernel_rfl) (by kernel_rfl) (by kernel_rfl) (fun _ _ _ h => h) (by assumption) (by rfl) ?_
                      simp only [Act.put, List.setIfInBounds_toArray, List.set_cons_zero, List.set_cons_succ]
                      first
                        | (refine held_take 3 286 (v := ?_) rfl rfl (by kernel_rfl) (by kernel_rfl) (by kernel_rfl) (fun _ _ _ h => h) (by assumption) (by rfl) ?_ ?_; rotate_left; (focus (intro w hSw; (have y0 := (Below.cell (p := ⟨R, 0, none⟩) hSw XR.out).trans X0.out); go_simp <;> with_reducible rfl)))
                        | refine held_pass 3 286 rfl rfl (by kernel_rfl) (by kernel_rfl) (by kernel_rfl) (fun _ _ _ h => h) (by assumption) (by rfl) ?_
                      simp only [Act.put, List.setIfInBounds_toArray, List.set_cons_zero, List.set_cons_succ]
                      first
                        | (refine held_take 4 287 (v := ?_) rfl rfl (by kernel_rfl) (by kernel_rfl) (by kernel_rfl) (fun _ _ _ h => h) (by assumption) (by rfl) ?_ ?_; rotate_left; (focus (intro w hSw; (have y0 := (Below.cell (p := ⟨R, 0, none⟩) hSw XR.out).trans X0.out); go_simp <;> with_reducible rfl)))
                        | refine held_pass 4 287 rfl rfl (by kernel_rfl) (by kernel_rfl) (by kernel_rfl) (fun _ _ _ h => h) (by assumption) (by rfl) ?_
                      simp only [Act.put, List.setIfInBounds_toArray, List.set_cons_zero, List.set_cons_succ]
                      first
                        | (refine held_take 5 288 (v := ?_) rfl rfl (by kernel_rfl) (by kernel_rfl) (by kernel_rfl) (fun _ _ _ h => h) (by assumption) (by rfl) ?_ ?_; rotate_left; (focus (intro w hSw; (have y0 := (Below.cell (p := ⟨R, 0, none⟩) hSw XR.out).trans X0.out); go_simp <;> with_reducible rfl)))
                        | refine held_pass 5 288 rfl rfl (by kernel_rfl) (by kernel_rfl) (by kernel_rfl) (fun _ _ _ h => h) (by assumption) (by rfl) ?_
                      simp only [Act.put, List.setIfInBounds_toArray, List.set_cons_zero, List.set_cons_succ]
                      first
                        | (refine held_take 6 289 (v := ?_) rfl rfl (by kernel_rfl) (by kernel_rfl) (by kernel_rfl) (fun _ _ _ h => h) (by assumption) (by rfl) ?_ ?_; rotate_left; (focus (intro w hSw; (have y0 := (Below.cell (p := ⟨R, 0, none⟩) hSw XR.out).trans X0.out); go_simp <;> with_reducible rfl)))
                        | refine held_pass 6 289 rfl rfl (by kernel_rfl) (by kernel_rfl) (by kernel_rfl) (fun _ _ _ h => h) (by assumption) (by rfl) ?_
                      simp only [Act.put, List.setIfInBounds_toArray, List.set_cons_zero, List.set_cons_succ]
                      refine held_call 1 284 rfl rfl (by kernel_rfl) (by rfl) (fun K hK => ?_)
                      simp only [Go.wp_at_succ, Go.wp_at_zero]
                      go_simp
                      go_at_call 12
                      (with_reducible refine (HLe.out _ hHeld).mono ?_)
                      rintro e u9 ⟨rfl, rfl⟩
                      first | (with_reducible refine hK.out _ _ ?_ (fun hHeld => ?_)) | (go_wp2_with fail; refine hK.out _ _ ?_ (fun hHeld => ?_))
                      · exact hHeld
                      clear hK K
                      try simp only [Act.put, List.setIfInBounds_toArray, List.set_cons_zero, List.set_cons_succ]
                      first
                        | (refine held_take 7 290 (v := ?_) rfl rfl (by kernel_rfl) (by kernel_rfl) (by kernel_rfl) (fun _ _ _ h => h) (by assumption) (by rfl) ?_ ?_; rotate_left; (focus (intro w hSw; (have y0 := (Below.cell (p := ⟨R, 0, none⟩) hSw XR.out).trans X0.out); go_simp <;> with_reducible rfl)))
                        | refine held_pass 7 290 rfl rfl (by kernel_rfl) (by kernel_rfl) (by kernel_rfl) (fun _ _ _ h => h) (by assumption) (by rfl) ?_
                      simp only [Act.put, List.setIfInBounds_toArray, List.set_cons_zero, List.set_cons_succ]
                      refine wpAnyH_done (by kernel_rfl) ?_ _
                      clear HLe
                      go_wp2
                      go_roundw
                      case rel => exact ⟨k + 1, L ++ [mAt L q], by go_num, by omega, by omega, S9, GE.out.on (by go_grown)⟩
                      case measure => simp [intOf]; omega
                · as_aux_lemma =>
                    have S9 : Hid (Sm L (k + 1)) := ⟨by have := SS.out.1; omega, SS.out.2⟩
                    
                    have HT1 : Hid (∀ u, Below wc.heap.size wc u → Calls Try.prog 15 #[.pointer (some ⟨n, 0, none⟩), .int .i64 nn] u fun e w' => e = .returned (.int .i64 5) ∧ u = w') := fun u hu => g_double_no (HS.out.on hu).bag nn hr
                    obtain ⟨xa0, xc0, x00, _⟩ := HS.out.cell
                    have HG := Lib.hid (fun j => HS.out.drewN j)
                    have hLl : L.length ≤ 80 := by have := SS.out.1; omega
                    generalize hm7 : L.length = m7 at x00 hr hLl
                    by_cases hn0 : 0 ≤ nn
                    · have d0 : decide ((0 : Int) ≤ nn) = true := by simp; omega
                      have d1 : decide (nn < (m7 : Int)) = false := by simp; omega
                      have n1 : (m7 : Int) ≤ nn := by omega
                      clear hr hm7
                      go_wp2_with fail
                      refine (HT1.out _ (by go_grown)).mono ?_
                      rintro e w3 ⟨rfl, rfl⟩
                      go_upto_region 38 with fail
                      go_quiet (fail)
                      clear HT1 z0 z1 z2 z3 z4 x00 d0 d1 n1
                      go_upto_region 50 with fail
                      obtain ⟨wE, hE⟩ : ∃ wE, wE = (wc.drewN nq) := ⟨_, rfl⟩
                      have GE := Lib.hid (HG.out nq)
                      rw [← hE] at GE ⊢
                      clear hE
                      obtain ⟨xa, xc, x0, _⟩ := GE.out.cell
                      have HLe : Hid (∀ u, Below wE.heap.size wE u → Calls Try.prog 12 #[.pointer (some ⟨n, 0, none⟩)] u fun e w' => e = .returned (.int .i64 (L).length) ∧ u = w') := fun u hu => q_len (GE.out.on hu)
                      have hxr : R < wE.heap.size := by obtain ⟨_, hr⟩ := GE.out.ref; exact hr.lt
                      have X0 := Lib.hid x0
                      have XR := Lib.hid hxr
                      clear x0 hxr
                      generalize (L).length = m9 at X0 HLe
                      refine wp_region_held_drew (S := (fun u => Below wE.heap.size wE u)) (by kernel_rfl) (Below.drew (Below.refl _ _)) (fun hHeld => ?_)
                      first
                        | (refine held_take 0 283 (v := ?_) rfl rfl (by kernel_rfl) (by kernel_rfl) (by kernel_rfl) (fun _ _ _ h => h) (by assumption) (by rfl) ?_ ?_; rotate_left; (focus (intro w hSw; (have y0 := (Below.cell (p := ⟨R, 0, none⟩) hSw XR.out).trans X0.out); go_simp <;> with_reducible rfl)))
                        | refine held_pass 0 283 rfl rfl (by kernel_rfl) (by kernel_rfl) (by kernel_rfl) (fun _ _ _ h => h) (by assumption) (by rfl) ?_
                      simp only [Act.put, List.setIfInBounds_toArray, List.set_cons_zero, List.set_cons_succ]
                      first
                        | (refine held_take 2 285 (v := ?_) rfl rfl (by kernel_rfl) (by kernel_rfl) (by kernel_rfl) (fun _ _ _ h => h) (by assumption) (by rfl) ?_ ?_; rotate_left; (focus (intro w hSw; (have y0 := (Below.cell (p := ⟨R, 0, none⟩) hSw XR.out).trans X0.out); go_simp <;> with_reducible rfl)))
                        | refine held_pass 2 285 rfl rfl (by kernel_rfl) (by kernel_rfl) (by kernel_rfl) (fun _ _ _ h => h) (by assumption) (by rfl) ?_
                      simp only [Act.put, List.setIfInBounds_toArray, List.set_cons_zero, List.set_cons_succ]
                      first
                        | (refine held_take 3 286 (v := ?_) rfl rfl (by kernel_rfl) (by kernel_rfl) (by kernel_rfl) (fun _ _ _ h => h) (by assumption) (by rfl) ?_ ?_; rotate_left; (focus (intro w hSw; (have y0 := (Below.cell (p := ⟨R, 0, none⟩) hSw XR.out).trans X0.out); go_simp <;> with_reducible rfl)))
                        | refine held_pass 3 286 rfl rfl (by kernel_rfl) (by kernel_rfl) (by kernel_rfl) (fun _ _ _ h => h) (by assumption) (by rfl) ?_
                      simp only [Act.put, List.setIfInBounds_toArray, List.set_cons_zero, List.set_cons_succ]
                      first
                        | (refine held_take 4 287 (v := ?_) rfl rfl (by kernel_rfl) (by kernel_rfl) (by kernel_rfl) (fun _ _ _ h => h) (by assumption) (by rfl) ?_ ?_; rotate_left; (focus (intro w hSw; (have y0 := (Below.cell (p := ⟨R, 0, none⟩) hSw XR.out).trans X0.out); go_simp <;> with_reducible rfl)))
                        | refine held_pass 4 287 rfl rfl (by kernel_rfl) (by kernel_rfl) (by kernel_rfl) (fun _ _ _ h => h) (by assumption) (by rfl) ?_
                      simp only [Act.put, List.setIfInBounds_toArray, List.set_cons_zero, List.set_cons_succ]
                      first
                        | (refine held_take 5 288 (v := ?_) rfl rfl (by kernel_rfl) (by kernel_rfl) (by kernel_rfl) (fun _ _ _ h => h) (by assumption) (by rfl) ?_ ?_; rotate_left; (focus (intro w hSw; (have y0 := (Below.cell (p := ⟨R, 0, none⟩) hSw XR.out).trans X0.out); go_simp <;> with_reducible rfl)))
                        | refine held_pass 5 288 rfl rfl (by kernel_rfl) (by kernel_rfl) (by kernel_rfl) (fun _ _ _ h => h) (by assumption) (by rfl) ?_
                      simp only [Act.put, List.setIfInBounds_toArray, List.set_cons_zero, List.set_cons_succ]
                      first
                        | (refine held_take 6 289 (v := ?_) rfl rfl (by kernel_rfl) (by kernel_rfl) (by kernel_rfl) (fun _ _ _ h => h) (by assumption) (by rfl) ?_ ?_; rotate_left; (focus (intro w hSw; (have y0 := (Below.cell (p := ⟨R, 0, none⟩) hSw XR.out).trans X0.out); go_simp <;> with_reducible rfl)))
                        | refine held_pass 6 289 rfl rfl (by kernel_rfl) (by kernel_rfl) (by kernel_rfl) (fun _ _ _ h => h) (by assumption) (by rfl) ?_
                      simp only [Act.put, List.setIfInBounds_toArray, List.set_cons_zero, List.set_cons_succ]
                      refine held_call 1 284 rfl rfl (by kernel_rfl) (by rfl) (fun K hK => ?_)
                      simp only [Go.wp_at_succ, Go.wp_at_zero]
                      go_simp
                      go_at_call 12
                      (with_reducible refine (HLe.out _ hHeld).mono ?_)
                      rintro e u9 ⟨rfl, rfl⟩
                      first | (with_reducible refine hK.out _ _ ?_ (fun hHeld => ?_)) | (go_wp2_with fail; refine hK.out _ _ ?_ (fun hHeld => ?_))
                      · exact hHeld
                      clear hK K
                      try simp only [Act.put, List.setIfInBounds_toArray, List.set_cons_zero, List.set_cons_succ]
                      first
                        | (refine held_take 7 290 (v := ?_) rfl rfl (by kernel_rfl) (by kernel_rfl) (by kernel_rfl) (fun _ _ _ h => h) (by assumption) (by rfl) ?_ ?_; rotate_left; (focus (intro w hSw; (have y0 := (Below.cell (p := ⟨R, 0, none⟩) hSw XR.out).trans X0.out); go_simp <;> with_reducible rfl)))
                        | refine held_pass 7 290 rfl rfl (by kernel_rfl) (by kernel_rfl) (by kernel_rfl) (fun _ _ _ h => h) (by assumption) (by rfl) ?_
                      simp only [Act.put, List.setIfInBounds_toArray, List.set_cons_zero, List.set_cons_succ]
                      refine wpAnyH_done (by kernel_rfl) ?_ _
                      clear HLe
                      go_wp2
                      go_roundw
                      case rel => exact ⟨k + 1, L, by go_num, by omega, by omega, S9, GE.out.on (by go_grown)⟩
                      case measure => simp [intOf]; omega
                    · have d0 : decide ((0 : Int) ≤ nn) = false := by simp; omega
                      clear hr hn0 hm7
                      go_wp2_with fail
                      refine (HT1.out _ (by go_grown)).mono ?_
                      rintro e w3 ⟨rfl, rfl⟩
                      go_upto_region 38 with fail
                      go_quiet (fail)
                      clear HT1 z0 z1 z2 z3 z4 x00 d0
                      go_upto_region 50 with fail
                      obtain ⟨wE, hE⟩ : ∃ wE, wE = (wc.drewN nq) := ⟨_, rfl⟩
                      have GE := Lib.hid (HG.out nq)
                      rw [← hE] at GE ⊢
                      clear hE
                      obtain ⟨xa, xc, x0, _⟩ := GE.out.cell
                      have HLe : Hid (∀ u, Below wE.heap.size wE u → Calls Try.prog 12 #[.pointer (some ⟨n, 0, none⟩)] u fun e w' => e = .returned (.int .i64 (L).length) ∧ u = w') := fun u hu => q_len (GE.out.on hu)
                      have hxr : R < wE.heap.size := by obtain ⟨_, hr⟩ := GE.out.ref; exact hr.lt
                      have X0 := Lib.hid x0
                      have XR := Lib.hid hxr
                      clear x0 hxr
                      generalize (L).length = m9 at X0 HLe
                      refine wp_region_held_drew (S := (fun u => Below wE.heap.size wE u)) (by kernel_rfl) (Below.drew (Below.refl _ _)) (fun hHeld => ?_)
                      first
                        | (refine held_take 0 283 (v := ?_) rfl rfl (by kernel_rfl) (by kernel_rfl) (by kernel_rfl) (fun _ _ _ h => h) (by assumption) (by rfl) ?_ ?_; rotate_left; (focus (intro w hSw; (have y0 := (Below.cell (p := ⟨R, 0, none⟩) hSw XR.out).trans X0.out); go_simp <;> with_reducible rfl)))
                        | refine held_pass 0 283 rfl rfl (by kernel_rfl) (by kernel_rfl) (by kernel_rfl) (fun _ _ _ h => h) (by assumption) (by rfl) ?_
                      simp only [Act.put, List.setIfInBounds_toArray, List.set_cons_zero, List.set_cons_succ]
                      first
                        | (refine held_take 2 285 (v := ?_) rfl rfl (by kernel_rfl) (by kernel_rfl) (by kernel_rfl) (fun _ _ _ h => h) (by assumption) (by rfl) ?_ ?_; rotate_left; (focus (intro w hSw; (have y0 := (Below.cell (p := ⟨R, 0, none⟩) hSw XR.out).trans X0.out); go_simp <;> with_reducible rfl)))
                        | refine held_pass 2 285 rfl rfl (by kernel_rfl) (by kernel_rfl) (by kernel_rfl) (fun _ _ _ h => h) (by assumption) (by rfl) ?_
                      simp only [Act.put, List.setIfInBounds_toArray, List.set_cons_zero, List.set_cons_succ]
                      first
                        | (refine held_take 3 286 (v := ?_) rfl rfl (by kernel_rfl) (by kernel_rfl) (by kernel_rfl) (fun _ _ _ h => h) (by assumption) (by rfl) ?_ ?_; rotate_left; (focus (intro w hSw; (have y0 := (Below.cell (p := ⟨R, 0, none⟩) hSw XR.out).trans X0.out); go_simp <;> with_reducible rfl)))
                        | refine held_pass 3 286 rfl rfl (by kernel_rfl) (by kernel_rfl) (by kernel_rfl) (fun _ _ _ h => h) (by assumption) (by rfl) ?_
                      simp only [Act.put, List.setIfInBounds_toArray, List.set_cons_zero, List.set_cons_succ]
                      first
                        | (refine held_take 4 287 (v := ?_) rfl rfl (by kernel_rfl) (by kernel_rfl) (by kernel_rfl) (fun _ _ _ h => h) (by assumption) (by rfl) ?_ ?_; rotate_left; (focus (intro w hSw; (have y0 := (Below.cell (p := ⟨R, 0, none⟩) hSw XR.out).trans X0.out); go_simp <;> with_reducible rfl)))
                        | refine held_pass 4 287 rfl rfl (by kernel_rfl) (by kernel_rfl) (by kernel_rfl) (fun _ _ _ h => h) (by assumption) (by rfl) ?_
                      simp only [Act.put, List.setIfInBounds_toArray, List.set_cons_zero, List.set_cons_succ]
                      first
                        | (refine held_take 5 288 (v := ?_) rfl rfl (by kernel_rfl) (by kernel_rfl) (by kernel_rfl) (fun _ _ _ h => h) (by assumption) (by rfl) ?_ ?_; rotate_left; (focus (intro w hSw; (have y0 := (Below.cell (p := ⟨R, 0, none⟩) hSw XR.out).trans X0.out); go_simp <;> with_reducible rfl)))
                        | refine held_pass 5 288 rfl rfl (by kernel_rfl) (by kernel_rfl) (by kernel_rfl) (fun _ _ _ h => h) (by assumption) (by rfl) ?_
                      simp only [Act.put, List.setIfInBounds_toArray, List.set_cons_zero, List.set_cons_succ]
                      first
                        | (refine held_take 6 289 (v := ?_) rfl rfl (by kernel_rfl) (by kernel_rfl) (by kernel_rfl) (fun _ _ _ h => h) (by assumption) (by rfl) ?_ ?_; rotate_left; (focus (intro w hSw; (have y0 := (Below.cell (p := ⟨R, 0, none⟩) hSw XR.out).trans X0.out); go_simp <;> with_reducible rfl)))
                        | refine held_pass 6 289 rfl rfl (by kernel_rfl) (by kernel_rfl) (by kernel_rfl) (fun _ _ _ h => h) (by assumption) (by rfl) ?_
                      simp only [Act.put, List.setIfInBounds_toArray, List.set_cons_zero, List.set_cons_succ]
                      refine held_call 1 284 rfl rfl (by kernel_rfl) (by rfl) (fun K hK => ?_)
                      simp only [Go.wp_at_succ, Go.wp_at_zero]
                      go_simp
                      go_at_call 12
                      (with_reducible refine (HLe.out _ hHeld).mono ?_)
                      rintro e u9 ⟨rfl, rfl⟩
                      first | (with_reducible refine hK.out _ _ ?_ (fun hHeld => ?_)) | (go_wp2_with fail; refine hK.out _ _ ?_ (fun hHeld => ?_))
                      · exact hHeld
                      clear hK K
                      try simp only [Act.put, List.setIfInBounds_toArray, List.set_cons_zero, List.set_cons_succ]
                      first
                        | (refine held_take 7 290 (v := ?_) rfl rfl (by kernel_rfl) (by kernel_rfl) (by kernel_rfl) (fun _ _ _ h => h) (by assumption) (by rfl) ?_ ?_; rotate_left; (focus (intro w hSw; (have y0 := (Below.cell (p := ⟨R, 0, none⟩) hSw XR.out).trans X0.out); go_simp <;> with_reducible rfl)))
                        | refine held_pass 7 290 rfl rfl (by kernel_rfl) (by kernel_rfl) (by kernel_rfl) (fun _ _ _ h => h) (by assumption) (by rfl) ?_
                      simp only [Act.put, List.setIfInBounds_toArray, List.set_cons_zero, List.set_cons_succ]
                      refine wpAnyH_done (by kernel_rfl) ?_ _
                      clear HLe
                      go_wp2
                      go_roundw
                      case rel => exact ⟨k + 1, L, by go_num, by omega, by omega, S9, GE.out.on (by go_grown)⟩
                      case measure => simp [intOf]; omega
              · have b2 : (kd == 2) = false := beq_eq_false_iff_ne.2 e2
                by_cases e3 : kd = 3
                · subst e3
                  by_cases hr : 0 ≤ nn ∧ nn < (L.length : Int)
                  · as_aux_lemma =>
                      obtain ⟨q, rfl⟩ : ∃ q : Nat, nn = (q : Int) := ⟨nn.toNat, by omega⟩
                      have hq : q < L.length := by omega
                      have hLl : L.length ≤ 80 := by have := SS.out.1; omega
                      have hmem := mAt_mem hq
                      have hsz := SS.out.2 _ hmem
                      
                      have HT1 : Hid (∀ u, Below wc.heap.size wc u → Calls Try.prog 16 #[.pointer (some ⟨n, 0, none⟩), .int .i64 q] u fun e w' => e = .returned (.int .i64 0) ∧ Hid (GPl n w R (L.take q ++ L.drop (q + 1)) L w') ∧ Hid (StpG w' p 3 q fr td (.slice ba bl.length bc))) := fun u hu =>
                        (q_drop (HS.out.on hu) q hq (by omega)).mono fun _ _ ⟨he, h1, h2⟩ => ⟨he, h1, (HP.out.ka (.of hu)).ka h2⟩
                      have HT2 : Hid (∀ u, GPl n w R (L.take q ++ L.drop (q + 1)) L u → Calls Try.prog 14 #[.pointer (some ⟨R, 0, none⟩), .int .i64 q] u fun e w' => e = .returned (.tuple #[.agg #[.int .i64 (mAt L q).fr, .int .i64 (mAt L q).to, .string (mAt L q).tx], .bool true]) ∧ Hid (GPl n w R (L.take q ++ L.drop (q + 1)) (L.take q ++ L.drop (q + 1)) w')) := fun u hu => (q_rtake hu q hq (by omega)).mono fun _ _ ⟨he, h1, _⟩ => ⟨he, h1⟩
                      have S9 : Hid (Sm (L.take q ++ L.drop (q + 1)) (k + 1)) := ⟨by rw [List.length_append, List.length_take, List.length_drop]; have := SS.out.1; omega, fun m hm => by
                        rcases List.mem_append.1 hm with h | h
                        · exact SS.out.2 m (List.mem_of_mem_take h)
                        · exact SS.out.2 m (List.mem_of_mem_drop h)⟩
                      
                      obtain ⟨f1, hf1⟩ : ∃ f, f = (mAt L q).fr := ⟨_, rfl⟩
                      obtain ⟨f2, hf2⟩ : ∃ f, f = (mAt L q).to := ⟨_, rfl⟩
                      obtain ⟨f3, hf3⟩ : ∃ f, f = (mAt L q).tx := ⟨_, rfl⟩
                      rw [← hf1, ← hf2, ← hf3] at HT2
                      clear hf1 hf2 hf3 hmem hsz hr hq hLl
                      go_wp2_with fail
                      refine (HT1.out _ (by go_grown)).mono ?_
                      rintro e w3 ⟨rfl, G3, P3⟩
                      obtain ⟨_, x1, _⟩ := P3.out.cells
                      clear z0 z1 z2 z3 z4 HT1
                      go_wp2_with fail
                      refine (HT2.out _ G3.out).mono ?_
                      rintro e w4 ⟨rfl, G4⟩
                      clear x1 HT2 G3 P3
                      go_wp2_with fail
                      go_upto_region 50 with fail
                      obtain ⟨wE, hE⟩ : ∃ wE, wE = (w4.alloc (.cells #[.int .i64 f1, .int .i64 f2, .string f3] 43)) := ⟨_, rfl⟩
                      have GE := Lib.hid (G4.out.on (show Below w4.heap.size w4 (w4.alloc (.cells #[.int .i64 f1, .int .i64 f2, .string f3] 43)) by go_grown))
                      rw [← hE] at GE ⊢
                      clear hE
                      obtain ⟨xa, xc, x0, _⟩ := GE.out.cell
                      have HLe : Hid (∀ u, Below wE.heap.size wE u → Calls Try.prog 12 #[.pointer (some ⟨n, 0, none⟩)] u fun e w' => e = .returned (.int .i64 (L.take q ++ L.drop (q + 1)).length) ∧ u = w') := fun u hu => q_len (GE.out.on hu)
                      have hxr : R < wE.heap.size := by obtain ⟨_, hr⟩ := GE.out.ref; exact hr.lt
                      have X0 := Lib.hid x0
                      have XR := Lib.hid hxr
                      clear x0 hxr
                      generalize (L.take q ++ L.drop (q + 1)).length = m9 at X0 HLe
                      refine wp_region_held_drew (S := (fun u => Below wE.heap.size wE u)) (by kernel_rfl) (Below.drew (Below.refl _ _)) (fun hHeld => ?_)
                      first
                        | (refine held_take 0 283 (v := ?_) rfl rfl (by kernel_rfl) (by kernel_rfl) (by kernel_rfl) (fun _ _ _ h => h) (by assumption) (by rfl) ?_ ?_; rotate_left; (focus (intro w hSw; (have y0 := (Below.cell (p := ⟨R, 0, none⟩) hSw XR.out).trans X0.out); go_simp <;> with_reducible rfl)))
                        | refine held_pass 0 283 rfl rfl (by kernel_rfl) (by kernel_rfl) (by kernel_rfl) (fun _ _ _ h => h) (by assumption) (by rfl) ?_
                      simp only [Act.put, List.setIfInBounds_toArray, List.set_cons_zero, List.set_cons_succ]
                      first
                        | (refine held_take 2 285 (v := ?_) rfl rfl (by kernel_rfl) (by kernel_rfl) (by kernel_rfl) (fun _ _ _ h => h) (by assumption) (by rfl) ?_ ?_; rotate_left; (focus (intro w hSw; (have y0 := (Below.cell (p := ⟨R, 0, none⟩) hSw XR.out).trans X0.out); go_simp <;> with_reducible rfl)))
                        | refine held_pass 2 285 rfl rfl (by kernel_rfl) (by kernel_rfl) (by kernel_rfl) (fun _ _ _ h => h) (by assumption) (by rfl) ?_
                      simp only [Act.put, List.setIfInBounds_toArray, List.set_cons_zero, List.set_cons_succ]
                      first
                        | (refine held_take 3 286 (v := ?_) rfl rfl (by kernel_rfl) (by kernel_rfl) (by kernel_rfl) (fun _ _ _ h => h) (by assumption) (by rfl) ?_ ?_; rotate_left; (focus (intro w hSw; (have y0 := (Below.cell (p := ⟨R, 0, none⟩) hSw XR.out).trans X0.out); go_simp <;> with_reducible rfl)))
                        | refine held_pass 3 286 rfl rfl (by kernel_rfl) (by kernel_rfl) (by kernel_rfl) (fun _ _ _ h => h) (by assumption) (by rfl) ?_
                      simp only [Act.put, List.setIfInBounds_toArray, List.set_cons_zero, List.set_cons_succ]
                      first
                        | (refine held_take 4 287 (v := ?_) rfl rfl (by kernel_rfl) (by kernel_rfl) (by kernel_rfl) (fun _ _ _ h => h) (by assumption) (by rfl) ?_ ?_; rotate_left; (focus (intro w hSw; (have y0 := (Below.cell (p := ⟨R, 0, none⟩) hSw XR.out).trans X0.out); go_simp <;> with_reducible rfl)))
                        | refine held_pass 4 287 rfl rfl (by kernel_rfl) (by kernel_rfl) (by kernel_rfl) (fun _ _ _ h => h) (by assumption) (by rfl) ?_
                      simp only [Act.put, List.setIfInBounds_toArray, List.set_cons_zero, List.set_cons_succ]
                      first
                        | (refine held_take 5 288 (v := ?_) rfl rfl (by kernel_rfl) (by kernel_rfl) (by kernel_rfl) (fun _ _ _ h => h) (by assumption) (by rfl) ?_ ?_; rotate_left; (focus (intro w hSw; (have y0 := (Below.cell (p := ⟨R, 0, none⟩) hSw XR.out).trans X0.out); go_simp <;> with_reducible rfl)))
                        | refine held_pass 5 288 rfl rfl (by kernel_rfl) (by kernel_rfl) (by kernel_rfl) (fun _ _ _ h => h) (by assumption) (by rfl) ?_
                      simp only [Act.put, List.setIfInBounds_toArray, List.set_cons_zero, List.set_cons_succ]
                      first
                        | (refine held_take 6 289 (v := ?_) rfl rfl (by kernel_rfl) (by kernel_rfl) (by kernel_rfl) (fun _ _ _ h => h) (by assumption) (by rfl) ?_ ?_; rotate_left; (focus (intro w hSw; (have y0 := (Below.cell (p := ⟨R, 0, none⟩) hSw XR.out).trans X0.out); go_simp <;> with_reducible rfl)))
                        | refine held_pass 6 289 rfl rfl (by kernel_rfl) (by kernel_rfl) (by kernel_rfl) (fun _ _ _ h => h) (by assumption) (by rfl) ?_
                      simp only [Act.put, List.setIfInBounds_toArray, List.set_cons_zero, List.set_cons_succ]
                      refine held_call 1 284 rfl rfl (by kernel_rfl) (by rfl) (fun K hK => ?_)
                      simp only [Go.wp_at_succ, Go.wp_at_zero]
                      go_simp
                      go_at_call 12
                      (with_reducible refine (HLe.out _ hHeld).mono ?_)
                      rintro e u9 ⟨rfl, rfl⟩
                      first | (with_reducible refine hK.out _ _ ?_ (fun hHeld => ?_)) | (go_wp2_with fail; refine hK.out _ _ ?_ (fun hHeld => ?_))
                      · exact hHeld
                      clear hK K
                      try simp only [Act.put, List.setIfInBounds_toArray, List.set_cons_zero, List.set_cons_succ]
                      first
                        | (refine held_take 7 290 (v := ?_) rfl rfl (by kernel_rfl) (by kernel_rfl) (by kernel_rfl) (fun _ _ _ h => h) (by assumption) (by rfl) ?_ ?_; rotate_left; (focus (intro w hSw; (have y0 := (Below.cell (p := ⟨R, 0, none⟩) hSw XR.out).trans X0.out); go_simp <;> with_reducible rfl)))
                        | refine held_pass 7 290 rfl rfl (by kernel_rfl) (by kernel_rfl) (by kernel_rfl) (fun _ _ _ h => h) (by assumption) (by rfl) ?_
                      simp only [Act.put, List.setIfInBounds_toArray, List.set_cons_zero, List.set_cons_succ]
                      refine wpAnyH_done (by kernel_rfl) ?_ _
                      clear HLe
                      go_wp2
                      go_roundw
                      case rel => exact ⟨k + 1, L.take q ++ L.drop (q + 1), by go_num, by omega, by omega, S9, GE.out.on (by go_grown)⟩
                      case measure => simp [intOf]; omega
                  · as_aux_lemma =>
                      have S9 : Hid (Sm L (k + 1)) := ⟨by have := SS.out.1; omega, SS.out.2⟩
                      
                      have HT1 : Hid (∀ u, Below wc.heap.size wc u → Calls Try.prog 16 #[.pointer (some ⟨n, 0, none⟩), .int .i64 nn] u fun e w' => e = .returned (.int .i64 5) ∧ u = w') := fun u hu => g_drop_no (HS.out.on hu).bag nn hr
                      have HT2 : Hid (∀ u, Below wc.heap.size wc u → Calls Try.prog 14 #[.pointer (some ⟨R, 0, none⟩), .int .i64 nn] u fun e w' => e = .returned (.tuple #[.agg #[.int .i64 0, .int .i64 0, .string ⟨#[]⟩], .bool false]) ∧ Hid (Below wc.heap.size wc w')) := fun u hu => (q_rtake_no (HS.out.on hu) nn hr).mono fun _ _ ⟨he, h⟩ => ⟨he, hu.trans (h.mono hu.size)⟩
                      clear hr
                      go_wp2_with fail
                      refine (HT1.out _ (by go_grown)).mono ?_
                      rintro e w3 ⟨rfl, rfl⟩
                      go_wp2_with fail
                      refine (HT2.out _ (by go_grown)).mono ?_
                      rintro e w4 ⟨rfl, B4⟩
                      clear z0 z1 z2 z3 z4 HT1 HT2
                      go_wp2_with fail
                      go_upto_region 50 with fail
                      obtain ⟨wE, hE⟩ : ∃ wE, wE = (w4.alloc (.cells #[.int .i64 0, .int .i64 0, .string ⟨#[]⟩] 43)) := ⟨_, rfl⟩
                      have GE := Lib.hid (HS.out.on (B4.out.trans (show Below wc.heap.size w4 (w4.alloc (.cells #[.int .i64 0, .int .i64 0, .string ⟨#[]⟩] 43)) by have h := B4.out.size; exact ((Below.refl _ _).alloc h _))))
                      rw [← hE] at GE ⊢
                      clear hE
                      obtain ⟨xa, xc, x0, _⟩ := GE.out.cell
                      have HLe : Hid (∀ u, Below wE.heap.size wE u → Calls Try.prog 12 #[.pointer (some ⟨n, 0, none⟩)] u fun e w' => e = .returned (.int .i64 (L).length) ∧ u = w') := fun u hu => q_len (GE.out.on hu)
                      have hxr : R < wE.heap.size := by obtain ⟨_, hr⟩ := GE.out.ref; exact hr.lt
                      have X0 := Lib.hid x0
                      have XR := Lib.hid hxr
                      clear x0 hxr
                      generalize (L).length = m9 at X0 HLe
                      refine wp_region_held_drew (S := (fun u => Below wE.heap.size wE u)) (by kernel_rfl) (Below.drew (Below.refl _ _)) (fun hHeld => ?_)
                      first
                        | (refine held_take 0 283 (v := ?_) rfl rfl (by kernel_rfl) (by kernel_rfl) (by kernel_rfl) (fun _ _ _ h => h) (by assumption) (by rfl) ?_ ?_; rotate_left; (focus (intro w hSw; (have y0 := (Below.cell (p := ⟨R, 0, none⟩) hSw XR.out).trans X0.out); go_simp <;> with_reducible rfl)))
                        | refine held_pass 0 283 rfl rfl (by kernel_rfl) (by kernel_rfl) (by kernel_rfl) (fun _ _ _ h => h) (by assumption) (by rfl) ?_
                      simp only [Act.put, List.setIfInBounds_toArray, List.set_cons_zero, List.set_cons_succ]
                      first
                        | (refine held_take 2 285 (v := ?_) rfl rfl (by kernel_rfl) (by kernel_rfl) (by kernel_rfl) (fun _ _ _ h => h) (by assumption) (by rfl) ?_ ?_; rotate_left; (focus (intro w hSw; (have y0 := (Below.cell (p := ⟨R, 0, none⟩) hSw XR.out).trans X0.out); go_simp <;> with_reducible rfl)))
                        | refine held_pass 2 285 rfl rfl (by kernel_rfl) (by kernel_rfl) (by kernel_rfl) (fun _ _ _ h => h) (by assumption) (by rfl) ?_
                      simp only [Act.put, List.setIfInBounds_toArray, List.set_cons_zero, List.set_cons_succ]
                      first
                        | (refine held_take 3 286 (v := ?_) rfl rfl (by kernel_rfl) (by kernel_rfl) (by kernel_rfl) (fun _ _ _ h => h) (by assumption) (by rfl) ?_ ?_; rotate_left; (focus (intro w hSw; (have y0 := (Below.cell (p := ⟨R, 0, none⟩) hSw XR.out).trans X0.out); go_simp <;> with_reducible rfl)))
                        | refine held_pass 3 286 rfl rfl (by kernel_rfl) (by kernel_rfl) (by kernel_rfl) (fun _ _ _ h => h) (by assumption) (by rfl) ?_
                      simp only [Act.put, List.setIfInBounds_toArray, List.set_cons_zero, List.set_cons_succ]
                      first
                        | (refine held_take 4 287 (v := ?_) rfl rfl (by kernel_rfl) (by kernel_rfl) (by kernel_rfl) (fun _ _ _ h => h) (by assumption) (by rfl) ?_ ?_; rotate_left; (focus (intro w hSw; (have y0 := (Below.cell (p := ⟨R, 0, none⟩) hSw XR.out).trans X0.out); go_simp <;> with_reducible rfl)))
                        | refine held_pass 4 287 rfl rfl (by kernel_rfl) (by kernel_rfl) (by kernel_rfl) (fun _ _ _ h => h) (by assumption) (by rfl) ?_
                      simp only [Act.put, List.setIfInBounds_toArray, List.set_cons_zero, List.set_cons_succ]
                      first
                        | (refine held_take 5 288 (v := ?_) rfl rfl (by kernel_rfl) (by kernel_rfl) (by kernel_rfl) (fun _ _ _ h => h) (by assumption) (by rfl) ?_ ?_; rotate_left; (focus (intro w hSw; (have y0 := (Below.cell (p := ⟨R, 0, none⟩) hSw XR.out).trans X0.out); go_simp <;> with_reducible rfl)))
                        | refine held_pass 5 288 rfl rfl (by kernel_rfl) (by kernel_rfl) (by kernel_rfl) (fun _ _ _ h => h) (by assumption) (by rfl) ?_
                      simp only [Act.put, List.setIfInBounds_toArray, List.set_cons_zero, List.set_cons_succ]
                      first
                        | (refine held_take 6 289 (v := ?_) rfl rfl (by kernel_rfl) (by kernel_rfl) (by kernel_rfl) (fun _ _ _ h => h) (by assumption) (by rfl) ?_ ?_; rotate_left; (focus (intro w hSw; (have y0 := (Below.cell (p := ⟨R, 0, none⟩) hSw XR.out).trans X0.out); go_simp <;> with_reducible rfl)))
                        | refine held_pass 6 289 rfl rfl (by kernel_rfl) (by kernel_rfl) (by kernel_rfl) (fun _ _ _ h => h) (by assumption) (by rfl) ?_
                      simp only [Act.put, List.setIfInBounds_toArray, List.set_cons_zero, List.set_cons_succ]
                      refine held_call 1 284 rfl rfl (by kernel_rfl) (by rfl) (fun K hK => ?_)
                      simp only [Go.wp_at_succ, Go.wp_at_zero]
                      go_simp
                      go_at_call 12
                      (with_reducible refine (HLe.out _ hHeld).mono ?_)
                      rintro e u9 ⟨rfl, rfl⟩
                      first | (with_reducible refine hK.out _ _ ?_ (fun hHeld => ?_)) | (go_wp2_with fail; refine hK.out _ _ ?_ (fun hHeld => ?_))
                      · exact hHeld
                      clear hK K
                      try simp only [Act.put, List.setIfInBounds_toArray, List.set_cons_zero, List.set_cons_succ]
                      first
                        | (refine held_take 7 290 (v := ?_) rfl rfl (by kernel_rfl) (by kernel_rfl) (by kernel_rfl) (fun _ _ _ h => h) (by assumption) (by rfl) ?_ ?_; rotate_left; (focus (intro w hSw; (have y0 := (Below.cell (p := ⟨R, 0, none⟩) hSw XR.out).trans X0.out); go_simp <;> with_reducible rfl)))
                        | refine held_pass 7 290 rfl rfl (by kernel_rfl) (by kernel_rfl) (by kernel_rfl) (fun _ _ _ h => h) (by assumption) (by rfl) ?_
                      simp only [Act.put, List.setIfInBounds_toArray, List.set_cons_zero, List.set_cons_succ]
                      refine wpAnyH_done (by kernel_rfl) ?_ _
                      clear HLe
                      go_wp2
                      go_roundw
                      case rel => exact ⟨k + 1, L, by go_num, by omega, by omega, S9, GE.out.on (by go_grown)⟩
                      case measure => simp [intOf]; omega
                · have b3 : (kd == 3) = false := beq_eq_false_iff_ne.2 e3
                  by_cases e4 : kd = 4
                  · subst e4
                    as_aux_lemma =>
                      have S9 : Hid (Sm L (k + 1)) := ⟨by have := SS.out.1; omega, SS.out.2⟩
                      
                      have hLl : L.length ≤ 80 := by have := SS.out.1; omega
                      have hTl : (toAt L td L.length).length ≤ 1000000 := by have := toAt_le L td L.length; omega
                      have HT1 : Hid (∀ u, Below wc.heap.size wc u → Calls Try.prog 10 #[.pointer (some ⟨n, 0, none⟩), .int .i64 td] u fun e w' => ∃ a c, e = .returned (.slice a (toAt L td L.length).length c) ∧ Hid (Ints w' w'.heap.size (.slice a (toAt L td L.length).length c) (toAt L td L.length)) ∧ Hid (Below wc.heap.size wc w')) := fun u hu => by
                        refine (q_to (HS.out.on hu) td (by omega)).mono ?_
                        rintro e w' ⟨a, c, rfl, h1, h2⟩
                        exact ⟨a, c, rfl, h1, hu.trans (h2.mono hu.size)⟩
                      have HT2 : Hid (∀ u, Below wc.heap.size wc u → Calls Try.prog 18 #[.pointer (some ⟨R, 0, none⟩), .int .i64 td] u fun e w' => ∃ a c, e = .returned (.slice a (toAt L td L.length).length c) ∧ Hid (Ints w' w'.heap.size (.slice a (toAt L td L.length).length c) (toAt L td L.length)) ∧ Hid (Below wc.heap.size wc w') ∧ Hid (Below u.heap.size u w')) := fun u hu => by
                        refine (q_rto (HS.out.on hu) td (by omega)).mono ?_
                        rintro e w' ⟨a, c, rfl, h1, h2⟩
                        exact ⟨a, c, rfl, h1, hu.trans (h2.mono hu.size), h2⟩
                      have HT3 : Hid (∀ u a1 c1 a2 c2, Ints u u.heap.size (.slice a1 (toAt L td L.length).length c1) (toAt L td L.length) → Ints u u.heap.size (.slice a2 (toAt L td L.length).length c2) (toAt L td L.length) → Calls Try.prog 17 #[.slice a1 (toAt L td L.length).length c1, .slice a2 (toAt L td L.length).length c2] u fun e w' => e = .returned (.bool true) ∧ Hid (Below u.heap.size u w')) := fun u a1 c1 a2 c2 h1 h2 => by
                        refine (refints_any _ _ _ _ u.heap.size u h1 h2 (Nat.le_refl _) hTl).mono ?_
                        rintro e w' ⟨rfl, h⟩
                        exact ⟨by simp, h⟩
                      generalize (toAt L td L.length).length = tl at HT1 HT2 HT3
                      have Z3 := Lib.hid z3
                      have HPL := Lib.hid HP.out.lt
                      clear hLl hTl
                      go_upto_region 48 with fail
                      refine wp_region_held_drew (S := (fun u => Below wc.heap.size wc u)) (by kernel_rfl) (Below.drew (Below.refl _ _)) (fun hHeld => ?_)
                      first
                        | (refine held_take 0 273 (v := ?_) rfl rfl (by kernel_rfl) (by kernel_rfl) (by kernel_rfl) (fun _ _ _ h => h) (by assumption) (by rfl) ?_ ?_; rotate_left; (focus (intro w hSw; (have y3 := (Below.cell (p := ⟨p, 3, none⟩) hSw HPL.out).trans Z3.out); go_simp <;> with_reducible rfl)))
                        | refine held_pass 0 273 rfl rfl (by kernel_rfl) (by kernel_rfl) (by kernel_rfl) (fun _ _ _ h => h) (by assumption) (by rfl) ?_
                      simp only [Act.put, List.setIfInBounds_toArray, List.set_cons_zero, List.set_cons_succ]
                      first
                        | (refine held_take 1 274 (v := ?_) rfl rfl (by kernel_rfl) (by kernel_rfl) (by kernel_rfl) (fun _ _ _ h => h) (by assumption) (by rfl) ?_ ?_; rotate_left; (focus (intro w hSw; (have y3 := (Below.cell (p := ⟨p, 3, none⟩) hSw HPL.out).trans Z3.out); go_simp <;> with_reducible rfl)))
                        | refine held_pass 1 274 rfl rfl (by kernel_rfl) (by kernel_rfl) (by kernel_rfl) (fun _ _ _ h => h) (by assumption) (by rfl) ?_
                      simp only [Act.put, List.setIfInBounds_toArray, List.set_cons_zero, List.set_cons_succ]
                      first
                        | (refine held_take 2 275 (v := ?_) rfl rfl (by kernel_rfl) (by kernel_rfl) (by kernel_rfl) (fun _ _ _ h => h) (by assumption) (by rfl) ?_ ?_; rotate_left; (focus (intro w hSw; (have y3 := (Below.cell (p := ⟨p, 3, none⟩) hSw HPL.out).trans Z3.out); go_simp <;> with_reducible rfl)))
                        | refine held_pass 2 275 rfl rfl (by kernel_rfl) (by kernel_rfl) (by kernel_rfl) (fun _ _ _ h => h) (by assumption) (by rfl) ?_
                      simp only [Act.put, List.setIfInBounds_toArray, List.set_cons_zero, List.set_cons_succ]
                      first
                        | (refine held_take 4 277 (v := ?_) rfl rfl (by kernel_rfl) (by kernel_rfl) (by kernel_rfl) (fun _ _ _ h => h) (by assumption) (by rfl) ?_ ?_; rotate_left; (focus (intro w hSw; (have y3 := (Below.cell (p := ⟨p, 3, none⟩) hSw HPL.out).trans Z3.out); go_simp <;> with_reducible rfl)))
                        | refine held_pass 4 277 rfl rfl (by kernel_rfl) (by kernel_rfl) (by kernel_rfl) (fun _ _ _ h => h) (by assumption) (by rfl) ?_
                      simp only [Act.put, List.setIfInBounds_toArray, List.set_cons_zero, List.set_cons_succ]
                      first
                        | (refine held_take 5 278 (v := ?_) rfl rfl (by kernel_rfl) (by kernel_rfl) (by kernel_rfl) (fun _ _ _ h => h) (by assumption) (by rfl) ?_ ?_; rotate_left; (focus (intro w hSw; (have y3 := (Below.cell (p := ⟨p, 3, none⟩) hSw HPL.out).trans Z3.out); go_simp <;> with_reducible rfl)))
                        | refine held_pass 5 278 rfl rfl (by kernel_rfl) (by kernel_rfl) (by kernel_rfl) (fun _ _ _ h => h) (by assumption) (by rfl) ?_
                      simp only [Act.put, List.setIfInBounds_toArray, List.set_cons_zero, List.set_cons_succ]
                      first
                        | (refine held_take 6 279 (v := ?_) rfl rfl (by kernel_rfl) (by kernel_rfl) (by kernel_rfl) (fun _ _ _ h => h) (by assumption) (by rfl) ?_ ?_; rotate_left; (focus (intro w hSw; (have y3 := (Below.cell (p := ⟨p, 3, none⟩) hSw HPL.out).trans Z3.out); go_simp <;> with_reducible rfl)))
                        | refine held_pass 6 279 rfl rfl (by kernel_rfl) (by kernel_rfl) (by kernel_rfl) (fun _ _ _ h => h) (by assumption) (by rfl) ?_
                      simp only [Act.put, List.setIfInBounds_toArray, List.set_cons_zero, List.set_cons_succ]
                      refine held_call 3 276 rfl rfl (by kernel_rfl) (by rfl) (fun K hK => ?_)
                      simp only [Go.wp_at_succ, Go.wp_at_zero]
                      go_simp
                      go_at_call 10
                      (with_reducible refine (HT1.out _ hHeld).mono ?_)
                      rintro e u1 ⟨a1, c1, rfl, I1, B1⟩
                      first | (with_reducible refine hK.out _ _ ?_ (fun hHeld => ?_)) | (go_wp2_with fail; refine hK.out _ _ ?_ (fun hHeld => ?_))
                      · exact B1.out
                      clear hK K
                      try simp only [Act.put, List.setIfInBounds_toArray, List.set_cons_zero, List.set_cons_succ]
                      refine held_call 7 280 rfl rfl (by kernel_rfl) (by rfl) (fun K hK => ?_)
                      simp only [Go.wp_at_succ, Go.wp_at_zero]
                      go_simp
                      go_at_call 18
                      (with_reducible refine (HT2.out _ B1.out).mono ?_)
                      rintro e u2 ⟨a2, c2, rfl, I2, B2, B3⟩
                      have I1' := Lib.hid ((I1.out.keep B3.out).mono B3.out.size)
                      first | (with_reducible refine hK.out _ _ ?_ (fun hHeld => ?_)) | (go_wp2_with fail; refine hK.out _ _ ?_ (fun hHeld => ?_))
                      · exact B2.out
                      clear hK K
                      try simp only [Act.put, List.setIfInBounds_toArray, List.set_cons_zero, List.set_cons_succ]
                      refine held_call 8 281 rfl rfl (by kernel_rfl) (by rfl) (fun K hK => ?_)
                      simp only [Go.wp_at_succ, Go.wp_at_zero]
                      go_simp
                      go_at_call 17
                      (with_reducible refine (HT3.out _ _ _ _ _ I1'.out I2.out).mono ?_)
                      rintro e u3 ⟨rfl, B4⟩
                      have B5 := Lib.hid (B2.out.trans (B4.out.mono B2.out.size))
                      first | (with_reducible refine hK.out _ _ ?_ (fun hHeld => ?_)) | (go_wp2_with fail; refine hK.out _ _ ?_ (fun hHeld => ?_))
                      · exact B5.out
                      clear hK K
                      try simp only [Act.put, List.setIfInBounds_toArray, List.set_cons_zero, List.set_cons_succ]
                      first
                        | (refine held_take 9 282 (v := ?_) rfl rfl (by kernel_rfl) (by kernel_rfl) (by kernel_rfl) (fun _ _ _ h => h) (by assumption) (by rfl) ?_ ?_; rotate_left; (focus (intro w hSw; (have y3 := (Below.cell (p := ⟨p, 3, none⟩) hSw HPL.out).trans Z3.out); go_simp <;> with_reducible rfl)))
                        | refine held_pass 9 282 rfl rfl (by kernel_rfl) (by kernel_rfl) (by kernel_rfl) (fun _ _ _ h => h) (by assumption) (by rfl) ?_
                      simp only [Act.put, List.setIfInBounds_toArray, List.set_cons_zero, List.set_cons_succ]
                      refine wpAnyH_done (by kernel_rfl) ?_ _
                      clear HT1 HT2 HT3 z0 z1 z2 z3 z4 I1 I2 I1' B1 B2 B3 B4
                      go_upto_region 50 with fail
                      have GE := Lib.hid (HS.out.on B5.out)
                      obtain ⟨xa, xc, x0, _⟩ := GE.out.cell
                      have HLe : Hid (∀ u, Below u3.heap.size u3 u → Calls Try.prog 12 #[.pointer (some ⟨n, 0, none⟩)] u fun e w' => e = .returned (.int .i64 (L).length) ∧ u = w') := fun u hu => q_len (GE.out.on hu)
                      have hxr : R < u3.heap.size := by obtain ⟨_, hr⟩ := GE.out.ref; exact hr.lt
                      have X0 := Lib.hid x0
                      have XR := Lib.hid hxr
                      clear x0 hxr
                      generalize (L).length = m9 at X0 HLe
                      refine wp_region_held_drew (S := (fun u => Below u3.heap.size u3 u)) (by kernel_rfl) (Below.drew (Below.refl _ _)) (fun hHeld => ?_)
                      first
                        | (refine held_take 0 283 (v := ?_) rfl rfl (by kernel_rfl) (by kernel_rfl) (by kernel_rfl) (fun _ _ _ h => h) (by assumption) (by rfl) ?_ ?_; rotate_left; (focus (intro w hSw; (have y0 := (Below.cell (p := ⟨R, 0, none⟩) hSw XR.out).trans X0.out); go_simp <;> with_reducible rfl)))
                        | refine held_pass 0 283 rfl rfl (by kernel_rfl) (by kernel_rfl) (by kernel_rfl) (fun _ _ _ h => h) (by assumption) (by rfl) ?_
                      simp only [Act.put, List.setIfInBounds_toArray, List.set_cons_zero, List.set_cons_succ]
                      first
                        | (refine held_take 2 285 (v := ?_) rfl rfl (by kernel_rfl) (by kernel_rfl) (by kernel_rfl) (fun _ _ _ h => h) (by assumption) (by rfl) ?_ ?_; rotate_left; (focus (intro w hSw; (have y0 := (Below.cell (p := ⟨R, 0, none⟩) hSw XR.out).trans X0.out); go_simp <;> with_reducible rfl)))
                        | refine held_pass 2 285 rfl rfl (by kernel_rfl) (by kernel_rfl) (by kernel_rfl) (fun _ _ _ h => h) (by assumption) (by rfl) ?_
                      simp only [Act.put, List.setIfInBounds_toArray, List.set_cons_zero, List.set_cons_succ]
                      first
                        | (refine held_take 3 286 (v := ?_) rfl rfl (by kernel_rfl) (by kernel_rfl) (by kernel_rfl) (fun _ _ _ h => h) (by assumption) (by rfl) ?_ ?_; rotate_left; (focus (intro w hSw; (have y0 := (Below.cell (p := ⟨R, 0, none⟩) hSw XR.out).trans X0.out); go_simp <;> with_reducible rfl)))
                        | refine held_pass 3 286 rfl rfl (by kernel_rfl) (by kernel_rfl) (by kernel_rfl) (fun _ _ _ h => h) (by assumption) (by rfl) ?_
                      simp only [Act.put, List.setIfInBounds_toArray, List.set_cons_zero, List.set_cons_succ]
                      first
                        | (refine held_take 4 287 (v := ?_) rfl rfl (by kernel_rfl) (by kernel_rfl) (by kernel_rfl) (fun _ _ _ h => h) (by assumption) (by rfl) ?_ ?_; rotate_left; (focus (intro w hSw; (have y0 := (Below.cell (p := ⟨R, 0, none⟩) hSw XR.out).trans X0.out); go_simp <;> with_reducible rfl)))
                        | refine held_pass 4 287 rfl rfl (by kernel_rfl) (by kernel_rfl) (by kernel_rfl) (fun _ _ _ h => h) (by assumption) (by rfl) ?_
                      simp only [Act.put, List.setIfInBounds_toArray, List.set_cons_zero, List.set_cons_succ]
                      first
                        | (refine held_take 5 288 (v := ?_) rfl rfl (by kernel_rfl) (by kernel_rfl) (by kernel_rfl) (fun _ _ _ h => h) (by assumption) (by rfl) ?_ ?_; rotate_left; (focus (intro w hSw; (have y0 := (Below.cell (p := ⟨R, 0, none⟩) hSw XR.out).trans X0.out); go_simp <;> with_reducible rfl)))
                        | refine held_pass 5 288 rfl rfl (by kernel_rfl) (by kernel_rfl) (by kernel_rfl) (fun _ _ _ h => h) (by assumption) (by rfl) ?_
                      simp only [Act.put, List.setIfInBounds_toArray, List.set_cons_zero, List.set_cons_succ]
                      first
                        | (refine held_take 6 289 (v := ?_) rfl rfl (by kernel_rfl) (by kernel_rfl) (by kernel_rfl) (fun _ _ _ h => h) (by assumption) (by rfl) ?_ ?_; rotate_left; (focus (intro w hSw; (have y0 := (Below.cell (p := ⟨R, 0, none⟩) hSw XR.out).trans X0.out); go_simp <;> with_reducible rfl)))
                        | refine held_pass 6 289 rfl rfl (by kernel_rfl) (by kernel_rfl) (by kernel_rfl) (fun _ _ _ h => h) (by assumption) (by rfl) ?_
                      simp only [Act.put, List.setIfInBounds_toArray, List.set_cons_zero, List.set_cons_succ]
                      refine held_call 1 284 rfl rfl (by kernel_rfl) (by rfl) (fun K hK => ?_)
                      simp only [Go.wp_at_succ, Go.wp_at_zero]
                      go_simp
                      go_at_call 12
                      (with_reducible refine (HLe.out _ hHeld).mono ?_)
                      rintro e u9 ⟨rfl, rfl⟩
                      first | (with_reducible refine hK.out _ _ ?_ (fun hHeld => ?_)) | (go_wp2_with fail; refine hK.out _ _ ?_ (fun hHeld => ?_))
                      · exact hHeld
                      clear hK K
                      try simp only [Act.put, List.setIfInBounds_toArray, List.set_cons_zero, List.set_cons_succ]
                      first
                        | (refine held_take 7 290 (v := ?_) rfl rfl (by kernel_rfl) (by kernel_rfl) (by kernel_rfl) (fun _ _ _ h => h) (by assumption) (by rfl) ?_ ?_; rotate_left; (focus (intro w hSw; (have y0 := (Below.cell (p := ⟨R, 0, none⟩) hSw XR.out).trans X0.out); go_simp <;> with_reducible rfl)))
                        | refine held_pass 7 290 rfl rfl (by kernel_rfl) (by kernel_rfl) (by kernel_rfl) (fun _ _ _ h => h) (by assumption) (by rfl) ?_
                      simp only [Act.put, List.setIfInBounds_toArray, List.set_cons_zero, List.set_cons_succ]
                      refine wpAnyH_done (by kernel_rfl) ?_ _
                      clear HLe
                      go_wp2
                      go_roundw
                      case rel => exact ⟨k + 1, L, by go_num, by omega, by omega, S9, GE.out.on (by go_grown)⟩
                      case measure => simp [intOf]; omega
                  · have b4 : (kd == 4) = false := beq_eq_false_iff_ne.2 e4
                    as_aux_lemma =>
                      have hLl : L.length ≤ 80 := by have := SS.out.1; omega
                      have S9 : Hid (Sm (rest L td) (k + 1)) := ⟨by have := rest_le L td; have := SS.out.1; omega, fun m hm => SS.out.2 m (List.mem_filter.1 hm).1⟩
                      have hTR := toAt_rest_len L td L.length (Nat.le_refl _)
                      rw [List.take_length] at hTR
                      obtain ⟨i0, hi, hz0, hz1, hz2⟩ := info_parts info_LM
                      have HT2 : Hid (∀ u, Below wc.heap.size wc u → Calls Try.prog 18 #[.pointer (some ⟨R, 0, none⟩), .int .i64 td] u fun e w' => ∃ a c, e = .returned (.slice a (toAt L td L.length).length c) ∧ Hid (Below wc.heap.size wc w')) := fun u hu => by
                        refine (q_rto (HS.out.on hu) td (by omega)).mono ?_
                        rintro e w' ⟨a, c, rfl, _, h2⟩
                        exact ⟨a, c, rfl, hu.trans (h2.mono hu.size)⟩
                      generalize htl : (toAt L td L.length).length = tl at HT2 hTR
                      have HTR := Lib.hid hTR
                      have HAT : Hid (∀ u, Below wc.heap.size wc u → ∃ a c, u.cell? ⟨R, 0, none⟩ = some (.slice a L.length c) ∧ (0 < L.length → ∃ b, a = some ⟨b, 0, none⟩ ∧ b < wc.heap.size ∧ ∀ j, j < L.length → u.cell? ⟨b, j * 3, none⟩ = some (.int .i64 (mAt L j).fr) ∧ u.cell? ⟨b, j * 3 + 1, none⟩ = some (.int .i64 (mAt L j).to) ∧ u.cell? ⟨b, j * 3 + 2, none⟩ = some (.string (mAt L j).tx))) := fun u hu => by
                        obtain ⟨v, hr⟩ := (HS.out.on hu).ref
                        obtain ⟨v0, hr0⟩ := HS.out.ref
                        obtain ⟨a, c, rfl⟩ := hr.shape
                        refine ⟨a, c, hr.cells.1, fun h0 => ?_⟩
                        obtain ⟨b, c2, hv, _, _, _, hbl, hcc⟩ := hr.at h0
                        simp only [Value.slice.injEq] at hv
                        obtain ⟨rfl, _, rfl⟩ := hv
                        refine ⟨b, rfl, ?_, fun j hj => ?_⟩
                        · obtain ⟨b0, c0, hv0, _, _, _, hbl0, _⟩ := hr0.at h0
                          have e1 := hr.cells.1.symm.trans ((hu.cell (p := ⟨R, 0, none⟩) hr0.lt).trans hr0.cells.1)
                          rw [hv0] at e1
                          simp at e1
                          omega
                        · have hg := rowC_get L j hj
                          exact ⟨hcc _ _ hg.1, hcc _ _ hg.2.1, hcc _ _ hg.2.2⟩
                      clear hTR
                      have HPL := Lib.hid HP.out.lt
                      go_wp2_with fail
                      refine (HT2.out _ (by go_grown)).mono ?_
                      rintro e w3 ⟨a3, c3, rfl, B3⟩
                      clear HT2 z0 z1 z2 z3 z4
                      go_wp2_with fail
                      obtain ⟨len2, hlen2⟩ : ∃ m, m = L.length := ⟨_, rfl⟩
                      rw [← hlen2] at HAT HTR hLl
                      have HL2 := Lib.hid hlen2
                      clear hlen2
                      go_loopw [20, 21] (fun s20 s21 wr => ∃ (j m : Nat) (a1 : Option Addr) (c1 : Nat), s21 = .int .i64 j ∧ j ≤ len2 ∧ s20 = .slice a1 m c1 ∧ m ≤ j ∧ Hid (m = (rest (L.take j) td).length) ∧ Hid (wr.ownsRow wc.heap.size 43 3 (.slice a1 m c1) m (rowC (rest (L.take j) td))) ∧ Hid (Below wc.heap.size wc wr)) (fun _ s21 _ => len2 - (intOf s21).toNat)
                      case atStart => exact ⟨0, 0, none, 0, rfl, Nat.zero_le _, rfl, Nat.le_refl _, (show _ = _ from rfl), World.ownsRow_nil _ _ _ _, B3⟩
                      case round =>
                        clear B3
                        obtain ⟨j, m, a1, c1, rfl, hj, rfl, hmj, HM, HR, HB⟩ := hrel
                        obtain ⟨xa, xc, x0, hat⟩ := HAT.out wr HB.out
                        obtain ⟨_, _, _, z3, _⟩ := (HP.out.ka (.of HB.out)).cells
                        by_cases hjt : j < len2
                        · obtain ⟨xb, rfl, hxb, hcc⟩ := hat (by omega)
                          obtain ⟨q0, q1, q2⟩ := hcc j hjt
                          have j1 : (j : Int) < (len2 : Int) := by omega
                          have j0 : (0 : Int) ≤ (j : Int) := by omega
                          have ht : rest (L.take (j + 1)) td = rest (L.take j) td ++ (if (mAt L j).to == td then [] else [mAt L j]) := by
                            have h2 : L.take (j + 1) = L.take j ++ [mAt L j] := by
                              rw [List.take_add_one]
                              unfold mAt
                              rw [List.getD_eq_getElem?_getD, List.getElem?_eq_getElem (by have := HL2.out; omega)]
                              rfl
                            rw [h2]
                            cases hq : ((mAt L j).to == td) <;> simp [rest, List.filter_append, hq]
                          have HJ := Lib.hid ht
                          have hxr : R < wr.heap.size := by
                            obtain ⟨_, hr⟩ := HS.out.ref
                            exact Nat.lt_of_lt_of_le hr.lt HB.out.size
                          clear hat hcc ht
                          generalize hmm : mAt L j = mm at q0 q1 q2 HJ
                          obtain ⟨f1, f2, f3⟩ := mm
                          dsimp only at q0 q1 q2
                          clear hmm
                          cases hq : (f2 == td) with
                          | true =>
                            have HE : Hid (rest (L.take (j + 1)) td = rest (L.take j) td) := Lib.hid (by have := HJ.out; rw [hq] at this; simpa using this)
                            have hd : (f2 != td) = false := by rw [bne, hq]; rfl
                            go_upto_region 17 with fail
                            go_quiet (fail)
                            go_wp2
                            go_roundw
                            case rel => exact ⟨j + 1, m, a1, c1, by go_num, by omega, rfl, by omega, (show _ = _ by rw [HE.out]; exact HM.out), by rw [HE.out]; exact ownsRow_at HR.out ⟨rfl, rfl, rfl, Nat.le_refl _, fun _ _ => rfl⟩, HB.out.trans ⟨rfl, rfl, rfl, Nat.le_refl _, fun _ _ => rfl⟩⟩
                            case measure => simp [intOf]; omega
                          | false =>
                            have HE : Hid (rest (L.take (j + 1)) td = rest (L.take j) td ++ [⟨f1, f2, f3⟩]) := Lib.hid (by have := HJ.out; rw [hq] at this; simpa using this)
                            have hd : (f2 != td) = true := by rw [bne, hq]; rfl
                            go_upto_region 17 with fail
                            go_quiet (fail)
                            obtain ⟨wq, hwq⟩ : ∃ wq, wq = wr.drewN nq := ⟨_, rfl⟩
                            have BQ : Hid (Below wr.heap.size wr wq) := Lib.hid (by rw [hwq]; exact ⟨rfl, rfl, rfl, Nat.le_refl _, fun _ _ => rfl⟩)
                            have HRQ := Lib.hid (ownsRow_at HR.out BQ.out)
                            have x9 : wq.cell? ⟨R, 0, none⟩ = some (.slice (some ⟨xb, 0, none⟩) len2 xc) := by rw [hwq]; exact x0
                            have q09 : wq.cell? ⟨xb, j * 3, none⟩ = some (.int .i64 f1) := by rw [hwq]; exact q0
                            have q19 : wq.cell? ⟨xb, j * 3 + 1, none⟩ = some (.int .i64 f2) := by rw [hwq]; exact q1
                            have q29 : wq.cell? ⟨xb, j * 3 + 2, none⟩ = some (.string f3) := by rw [hwq]; exact q2
                            have HQB := Lib.hid (HB.out.trans (BQ.out.mono HB.out.size))
                            rw [← hwq]
                            clear hwq x0 q0 q1 q2 z3
                            go_wp2_with (at_builtin; refine wpList_append_own_src rfl (.tmp 80) (.tmp 88) 37 37 rfl wc.heap.size 43 i0 (.agg #[.int .i64 0, .int .i64 0, .string ⟨#[]⟩]) 3 32 Try.underlying37 hi hz0 hz1 hz2 rfl _ _ _ rfl (HRQ.out.alloc _) _ 1 (msgC ⟨f1, f2, f3⟩) rfl (src_msgG wq ⟨f1, f2, f3⟩) ?c3 ?c4 ?c5 ?_)
                            case c3 => unfold maxLen; omega
                            case c4 => omega
                            case c5 => have := HQB.out.size; simp; omega
                            intro v5 w5 h5 g5
                            obtain ⟨a5, c5, rfl⟩ := own_shape h5
                            have H5 := Lib.hid h5
                            have G5 : Hid (Below wc.heap.size wc w5) := (HQB.out.alloc HQB.out.size _).grown g5 (by have := HQB.out.size; simp; omega) (fun b hb => (HRQ.out.lt b hb).1)
                            clear h5 g5 x9 q09 q19 q29
                            go_wp2
                            go_roundw
                            case rel => exact ⟨j + 1, m + 1, a5, c5, by go_num, by omega, rfl, by omega, (show _ = _ by rw [HE.out, List.length_append, HM.out]; rfl), by rw [HE.out, rowC_append, rowC_one]; exact H5.out, G5.out⟩
                            case measure => simp [intOf]; omega
                        · have hle : (len2 : Int) ≤ (j : Int) := by omega
                          obtain rfl : j = len2 := by omega
                          have hrt : rest (L.take j) td = rest L td := by rw [HL2.out, List.take_length]
                          have GB := Lib.hid (HS.out.on HB.out)
                          have hrow : wr.ownsRow n 43 3 (.slice a1 m c1) (rest L td).length (rowC (rest L td)) := by
                            have h1 := HR.out
                            rw [hrt] at h1
                            have h2 := HM.out
                            rw [hrt] at h2
                            rw [← h2]
                            refine ⟨h1.1, ?_⟩
                            rcases h1.2 with h0 | ⟨q, cap, cur, hv, hq, h3⟩
                            · exact .inl h0
                            · exact .inr ⟨q, cap, cur, hv, Nat.le_trans HS.out.bag.size hq, h3⟩
                          have G4 := Lib.hid (GB.out.setR hrow)
                          have hmt : (rest L td).length = m := by have := HM.out; rw [hrt] at this; exact this.symm
                          have P4 : Hid (StpG (wr.setCell ⟨R, 0, none⟩ (.slice a1 m c1)) p kd nn fr td (.slice ba bl.length bc)) := by
                            have hp := HP.out.ka (.of HB.out)
                            refine ((Only.set R 0 wr _).block p hp.lt fun e => ?_).trans hp
                            obtain ⟨_, hr⟩ := GB.out.ref
                            subst e
                            have := hr.blk.symm.trans (show wr.heap[p]? = _ from hp)
                            simp at this
                          obtain ⟨_, hfz⟩ : True ∧ wr.frozen? ⟨R, 0, none⟩ = false := ⟨trivial, by obtain ⟨_, hr⟩ := GB.out.ref; exact hr.cells.2⟩
                          have HLo : Hid (∀ u, GPl n w R L (rest L td) u → Calls Try.prog 11 #[.pointer (some ⟨n, 0, none⟩), .int .i64 td] u fun e w' => e = .returned (.int .i64 tl) ∧ Hid (GPl n w R (rest L td) (rest L td) w')) := fun u hu => by
                            refine (q_lose hu td (by have := HL2.out; omega)).mono ?_
                            rintro e w' ⟨rfl, h1, _⟩
                            refine ⟨?_, h1⟩
                            have e1 := HTR.out
                            have e2 := HL2.out
                            rw [show ((L.length : Nat) : Int) - ((rest L td).length : Nat) = (tl : Int) by omega]
                          obtain ⟨w4, hw4⟩ : ∃ w4, w4 = wr.setCell ⟨R, 0, none⟩ (.slice a1 m c1) := ⟨_, rfl⟩
                          rw [← hw4] at G4 P4
                          obtain ⟨_, _, _, z34, _⟩ := P4.out.cells
                          clear hat hrow hrt z3
                          go_upto_region 20 with fail
                          rw [← hw4]
                          clear hw4 x0 hfz
                          go_wp2_with fail
                          refine (HLo.out _ G4.out).mono ?_
                          rintro e w6 ⟨rfl, G6⟩
                          clear HLo z34
                          go_upto_region 50 with fail
                          have GE := G6
                          obtain ⟨xa, xc, x0, _⟩ := GE.out.cell
                          have HLe : Hid (∀ u, Below w6.heap.size w6 u → Calls Try.prog 12 #[.pointer (some ⟨n, 0, none⟩)] u fun e w' => e = .returned (.int .i64 (rest L td).length) ∧ u = w') := fun u hu => q_len (GE.out.on hu)
                          have hxr : R < w6.heap.size := by obtain ⟨_, hr⟩ := GE.out.ref; exact hr.lt
                          have X0 := Lib.hid x0
                          have XR := Lib.hid hxr
                          clear x0 hxr
                          generalize (rest L td).length = m9 at X0 HLe
                          refine wp_region_held_drew (S := (fun u => Below w6.heap.size w6 u)) (by kernel_rfl) (Below.drew (Below.refl _ _)) (fun hHeld => ?_)
                          first
                            | (refine held_take 0 283 (v := ?_) rfl rfl (by kernel_rfl) (by kernel_rfl) (by kernel_rfl) (fun _ _ _ h => h) (by assumption) (by rfl) ?_ ?_; rotate_left; (focus (intro w hSw; (have y0 := (Below.cell (p := ⟨R, 0, none⟩) hSw XR.out).trans X0.out); go_simp <;> with_reducible rfl)))
                            | refine held_pass 0 283 rfl rfl (by kernel_rfl) (by kernel_rfl) (by kernel_rfl) (fun _ _ _ h => h) (by assumption) (by rfl) ?_
                          simp only [Act.put, List.setIfInBounds_toArray, List.set_cons_zero, List.set_cons_succ]
                          first
                            | (refine held_take 2 285 (v := ?_) rfl rfl (by kernel_rfl) (by kernel_rfl) (by kernel_rfl) (fun _ _ _ h => h) (by assumption) (by rfl) ?_ ?_; rotate_left; (focus (intro w hSw; (have y0 := (Below.cell (p := ⟨R, 0, none⟩) hSw XR.out).trans X0.out); go_simp <;> with_reducible rfl)))
                            | refine held_pass 2 285 rfl rfl (by kernel_rfl) (by kernel_rfl) (by kernel_rfl) (fun _ _ _ h => h) (by assumption) (by rfl) ?_
                          simp only [Act.put, List.setIfInBounds_toArray, List.set_cons_zero, List.set_cons_succ]
                          first
                            | (refine held_take 3 286 (v := ?_) rfl rfl (by kernel_rfl) (by kernel_rfl) (by kernel_rfl) (fun _ _ _ h => h) (by assumption) (by rfl) ?_ ?_; rotate_left; (focus (intro w hSw; (have y0 := (Below.cell (p := ⟨R, 0, none⟩) hSw XR.out).trans X0.out); go_simp <;> with_reducible rfl)))
                            | refine held_pass 3 286 rfl rfl (by kernel_rfl) (by kernel_rfl) (by kernel_rfl) (fun _ _ _ h => h) (by assumption) (by rfl) ?_
                          simp only [Act.put, List.setIfInBounds_toArray, List.set_cons_zero, List.set_cons_succ]
                          first
                            | (refine held_take 4 287 (v := ?_) rfl rfl (by kernel_rfl) (by kernel_rfl) (by kernel_rfl) (fun _ _ _ h => h) (by assumption) (by rfl) ?_ ?_; rotate_left; (focus (intro w hSw; (have y0 := (Below.cell (p := ⟨R, 0, none⟩) hSw XR.out).trans X0.out); go_simp <;> with_reducible rfl)))
                            | refine held_pass 4 287 rfl rfl (by kernel_rfl) (by kernel_rfl) (by kernel_rfl) (fun _ _ _ h => h) (by assumption) (by rfl) ?_
                          simp only [Act.put, List.setIfInBounds_toArray, List.set_cons_zero, List.set_cons_succ]
                          first
                            | (refine held_take 5 288 (v := ?_) rfl rfl (by kernel_rfl) (by kernel_rfl) (by kernel_rfl) (fun _ _ _ h => h) (by assumption) (by rfl) ?_ ?_; rotate_left; (focus (intro w hSw; (have y0 := (Below.cell (p := ⟨R, 0, none⟩) hSw XR.out).trans X0.out); go_simp <;> with_reducible rfl)))
                            | refine held_pass 5 288 rfl rfl (by kernel_rfl) (by kernel_rfl) (by kernel_rfl) (fun _ _ _ h => h) (by assumption) (by rfl) ?_
                          simp only [Act.put, List.setIfInBounds_toArray, List.set_cons_zero, List.set_cons_succ]
                          first
                            | (refine held_take 6 289 (v := ?_) rfl rfl (by kernel_rfl) (by kernel_rfl) (by kernel_rfl) (fun _ _ _ h => h) (by assumption) (by rfl) ?_ ?_; rotate_left; (focus (intro w hSw; (have y0 := (Below.cell (p := ⟨R, 0, none⟩) hSw XR.out).trans X0.out); go_simp <;> with_reducible rfl)))
                            | refine held_pass 6 289 rfl rfl (by kernel_rfl) (by kernel_rfl) (by kernel_rfl) (fun _ _ _ h => h) (by assumption) (by rfl) ?_
                          simp only [Act.put, List.setIfInBounds_toArray, List.set_cons_zero, List.set_cons_succ]
                          refine held_call 1 284 rfl rfl (by kernel_rfl) (by rfl) (fun K hK => ?_)
                          simp only [Go.wp_at_succ, Go.wp_at_zero]
                          go_simp
                          go_at_call 12
                          (with_reducible refine (HLe.out _ hHeld).mono ?_)
                          rintro e u9 ⟨rfl, rfl⟩
                          first | (with_reducible refine hK.out _ _ ?_ (fun hHeld => ?_)) | (go_wp2_with fail; refine hK.out _ _ ?_ (fun hHeld => ?_))
                          · exact hHeld
                          clear hK K
                          try simp only [Act.put, List.setIfInBounds_toArray, List.set_cons_zero, List.set_cons_succ]
                          first
                            | (refine held_take 7 290 (v := ?_) rfl rfl (by kernel_rfl) (by kernel_rfl) (by kernel_rfl) (fun _ _ _ h => h) (by assumption) (by rfl) ?_ ?_; rotate_left; (focus (intro w hSw; (have y0 := (Below.cell (p := ⟨R, 0, none⟩) hSw XR.out).trans X0.out); go_simp <;> with_reducible rfl)))
                            | refine held_pass 7 290 rfl rfl (by kernel_rfl) (by kernel_rfl) (by kernel_rfl) (fun _ _ _ h => h) (by assumption) (by rfl) ?_
                          simp only [Act.put, List.setIfInBounds_toArray, List.set_cons_zero, List.set_cons_succ]
                          refine wpAnyH_done (by kernel_rfl) ?_ _
                          clear HLe
                          go_wp2
                          go_roundw
                          case rel => exact ⟨k + 1, rest L td, by go_num, by omega, by omega, S9, GE.out.on (by go_grown)⟩
                          case measure => simp [intOf]; omega
      · as_aux_lemma =>
          have hlim : (80 : Int) ≤ (k : Int) := by omega
          clear h80
          have hLb : L.length ≤ 80 := Nat.le_trans SS.out.1 hk80
          go_wp2_with fail
          go_loopw [22] (fun s22 wr => ∃ (j : Nat) (L' : List MsgV), s22 = .int .i64 j ∧ Hid (L'.length ≤ 80 ∧ ∀ m ∈ L', m.tx.size ≤ 100) ∧ j + L'.length = L.length ∧ Hid (GPl n w R L' L' wr)) (fun s22 _ => L.length - (intOf s22).toNat)
          case atStart => exact ⟨0, L, rfl, ⟨Nat.le_trans SS.out.1 hk80, SS.out.2⟩, Nat.zero_add _, HB⟩
          case round =>
            clear HB SS
            obtain ⟨j, L', rfl, SS, hjl, HB⟩ := hrel
            obtain ⟨xa, xc, x0, _⟩ := HB.out.cell
            cases L' with
            | nil =>
              have HLe : Hid (∀ u, GPl n w R [] [] u → Calls Try.prog 12 #[.pointer (some ⟨n, 0, none⟩)] u fun e w' => e = .returned (.int .i64 0) ∧ u = w') := fun u hu => q_len hu
              simp only [List.length_nil] at x0
              go_wp2_with fail
              refine (HT.out _).mono ?_
              rintro e w3 ⟨rfl, hb⟩
              have B3 := Lib.hid (HB.out.on hb)
              clear hb x0
              go_wp2_with fail
              refine (HLe.out _ B3.out).mono ?_
              rintro e w4 ⟨rfl, rfl⟩
              go_wp2
              go_returns
              exact ⟨rfl, B3.out.bag.bel⟩
            | cons m0 L2 =>
              obtain ⟨f1, f2, f3⟩ := m0
              have h80 := SS.out.1
              have hsz : f3.size ≤ 100 := SS.out.2 ⟨f1, f2, f3⟩ (by simp)
              have S2 : Hid (L2.length ≤ 80 ∧ ∀ m ∈ L2, m.tx.size ≤ 100) := ⟨by simp at h80; omega, fun m hm => SS.out.2 m (by simp [hm])⟩
              have HT1 : Hid (∀ u, GPl n w R (⟨f1, f2, f3⟩ :: L2) (⟨f1, f2, f3⟩ :: L2) u → Calls Try.prog 13 #[.pointer (some ⟨n, 0, none⟩), .int .i64 0] u fun e w' => (∃ a s c, e = .returned (.tuple #[.int .i64 f1, .int .i64 f2, .slice a s c, .int .i64 0]) ∧ Hid (Byt w' w'.heap.size (.slice a s c) f3.data.toList ∧ ∀ b, a = some b → ∃ cs fz, w'.heap[b.block]? = some (.cells cs 5 fz))) ∧ Hid (GPl n w R L2 (⟨f1, f2, f3⟩ :: L2) w')) := fun u hu => by
                refine (q_take hu 0 (by simp) (by omega) (by exact Nat.le_trans hsz (by decide))).mono ?_
                rintro e w' ⟨⟨a, c, rfl, hy⟩, h1, _⟩
                exact ⟨⟨a, _, c, rfl, hy⟩, h1⟩
              have HT2 : Hid (∀ u a s c, GPl n w R L2 (⟨f1, f2, f3⟩ :: L2) u → (Byt u u.heap.size (.slice a s c) f3.data.toList ∧ ∀ b, a = some b → ∃ cs fz, u.heap[b.block]? = some (.cells cs 5 fz)) → Calls Try.prog 14 #[.pointer (some ⟨R, 0, none⟩), .int .i64 0] u fun e w' => e = .returned (.tuple #[.agg #[.int .i64 f1, .int .i64 f2, .string f3], .bool true]) ∧ Hid (GPl n w R L2 L2 w') ∧ Hid (∀ u', Below w'.heap.size w' u' → (convert 28 9 (.slice a s c)).run Try.prog u' = .ok (.string f3) u')) := fun u a s c hu hy => by
                refine (q_rtakeB hu 0 (by simp) (by omega) hy.1 hy.2).mono ?_
                rintro e w' ⟨rfl, h1, h2⟩
                exact ⟨rfl, h1, h2⟩
              have hm8 : 0 < (⟨f1, f2, f3⟩ :: L2 : List MsgV).length := by simp
              have hm9 : (⟨f1, f2, f3⟩ :: L2 : List MsgV).length = L2.length + 1 := by simp
              rw [hm9] at hjl
              have HJ := Lib.hid hjl
              have hj80 : (j : Int) ≤ 80 := by omega
              clear hm9 hjl h80 hsz
              generalize (⟨f1, f2, f3⟩ :: L2 : List MsgV).length = m8 at x0 hm8
              have m80 : (0 : Int) < (m8 : Int) := by omega
              go_wp2_with fail
              refine (HT1.out _ HB.out).mono ?_
              rintro e w3 ⟨⟨a3, s3, c3, rfl, Y3⟩, G3⟩
              clear x0 HT1
              go_wp2_with fail
              refine (HT2.out _ a3 s3 c3 G3.out Y3.out).mono ?_
              rintro e w4 ⟨rfl, G4, K4⟩
              have kx := K4.out _ (show Below w4.heap.size w4 (w4.alloc (.cells #[.int .i64 f1, .int .i64 f2, .string f3] 43)) by go_grown)
              clear HT2 G3 Y3 HB
              go_wp2
              go_roundw
              case rel => exact ⟨j + 1, L2, by go_num, S2, by have := HJ.out; omega, G4.out.on (by go_grown)⟩
              case measure => have := HJ.out; simp [intOf]; omega
    · as_aux_lemma =>
        have hle : (len : Int) ≤ (k : Int) := by omega
        clear hlt
        have hLb : L.length ≤ 80 := Nat.le_trans SS.out.1 hk80
        go_wp2_with fail
        go_loopw [22] (fun s22 wr => ∃ (j : Nat) (L' : List MsgV), s22 = .int .i64 j ∧ Hid (L'.length ≤ 80 ∧ ∀ m ∈ L', m.tx.size ≤ 100) ∧ j + L'.length = L.length ∧ Hid (GPl n w R L' L' wr)) (fun s22 _ => L.length - (intOf s22).toNat)
        case atStart => exact ⟨0, L, rfl, ⟨Nat.le_trans SS.out.1 hk80, SS.out.2⟩, Nat.zero_add _, HB⟩
        case round =>
          clear HB SS
          obtain ⟨j, L', rfl, SS, hjl, HB⟩ := hrel
          obtain ⟨xa, xc, x0, _⟩ := HB.out.cell
          cases L' with
          | nil =>
            have HLe : Hid (∀ u, GPl n w R [] [] u → Calls Try.prog 12 #[.pointer (some ⟨n, 0, none⟩)] u fun e w' => e = .returned (.int .i64 0) ∧ u = w') := fun u hu => q_len hu
            simp only [List.length_nil] at x0
            go_wp2_with fail
            refine (HT.out _).mono ?_
            rintro e w3 ⟨rfl, hb⟩
            have B3 := Lib.hid (HB.out.on hb)
            clear hb x0
            go_wp2_with fail
            refine (HLe.out _ B3.out).mono ?_
            rintro e w4 ⟨rfl, rfl⟩
            go_wp2
            go_returns
            exact ⟨rfl, B3.out.bag.bel⟩
          | cons m0 L2 =>
            obtain ⟨f1, f2, f3⟩ := m0
            have h80 := SS.out.1
            have hsz : f3.size ≤ 100 := SS.out.2 ⟨f1, f2, f3⟩ (by simp)
            have S2 : Hid (L2.length ≤ 80 ∧ ∀ m ∈ L2, m.tx.size ≤ 100) := ⟨by simp at h80; omega, fun m hm => SS.out.2 m (by simp [hm])⟩
            have HT1 : Hid (∀ u, GPl n w R (⟨f1, f2, f3⟩ :: L2) (⟨f1, f2, f3⟩ :: L2) u → Calls Try.prog 13 #[.pointer (some ⟨n, 0, none⟩), .int .i64 0] u fun e w' => (∃ a s c, e = .returned (.tuple #[.int .i64 f1, .int .i64 f2, .slice a s c, .int .i64 0]) ∧ Hid (Byt w' w'.heap.size (.slice a s c) f3.data.toList ∧ ∀ b, a = some b → ∃ cs fz, w'.heap[b.block]? = some (.cells cs 5 fz))) ∧ Hid (GPl n w R L2 (⟨f1, f2, f3⟩ :: L2) w')) := fun u hu => by
              refine (q_take hu 0 (by simp) (by omega) (by exact Nat.le_trans hsz (by decide))).mono ?_
              rintro e w' ⟨⟨a, c, rfl, hy⟩, h1, _⟩
              exact ⟨⟨a, _, c, rfl, hy⟩, h1⟩
            have HT2 : Hid (∀ u a s c, GPl n w R L2 (⟨f1, f2, f3⟩ :: L2) u → (Byt u u.heap.size (.slice a s c) f3.data.toList ∧ ∀ b, a = some b → ∃ cs fz, u.heap[b.block]? = some (.cells cs 5 fz)) → Calls Try.prog 14 #[.pointer (some ⟨R, 0, none⟩), .int .i64 0] u fun e w' => e = .returned (.tuple #[.agg #[.int .i64 f1, .int .i64 f2, .string f3], .bool true]) ∧ Hid (GPl n w R L2 L2 w') ∧ Hid (∀ u', Below w'.heap.size w' u' → (convert 28 9 (.slice a s c)).run Try.prog u' = .ok (.string f3) u')) := fun u a s c hu hy => by
              refine (q_rtakeB hu 0 (by simp) (by omega) hy.1 hy.2).mono ?_
              rintro e w' ⟨rfl, h1, h2⟩
              exact ⟨rfl, h1, h2⟩
            have hm8 : 0 < (⟨f1, f2, f3⟩ :: L2 : List MsgV).length := by simp
            have hm9 : (⟨f1, f2, f3⟩ :: L2 : List MsgV).length = L2.length + 1 := by simp
            rw [hm9] at hjl
            have HJ := Lib.hid hjl
            have hj80 : (j : Int) ≤ 80 := by omega
            clear hm9 hjl h80 hsz
            generalize (⟨f1, f2, f3⟩ :: L2 : List MsgV).length = m8 at x0 hm8
            have m80 : (0 : Int) < (m8 : Int) := by omega
            go_wp2_with fail
            refine (HT1.out _ HB.out).mono ?_
            rintro e w3 ⟨⟨a3, s3, c3, rfl, Y3⟩, G3⟩
            clear x0 HT1
            go_wp2_with fail
            refine (HT2.out _ a3 s3 c3 G3.out Y3.out).mono ?_
            rintro e w4 ⟨rfl, G4, K4⟩
            have kx := K4.out _ (show Below w4.heap.size w4 (w4.alloc (.cells #[.int .i64 f1, .int .i64 f2, .string f3] 43)) by go_grown)
            clear HT2 G3 Y3 HB
            go_wp2
            go_roundw
            case rel => exact ⟨j + 1, L2, by go_num, S2, by have := HJ.out; omega, G4.out.on (by go_grown)⟩
            case measure => have := HJ.out; simp [intOf]; omega

theorem walk (v : Value) (l : List GStepV) (w : World) (hI : GSteps w w.heap.size v l) :
    Calls Try.prog 4 #[v] w fun e w' => e = .returned (.bool true) ∧ Below w.heap.size w w' := by
  obtain ⟨a, c, rfl, _⟩ := id hI
  exact main l l.length a c w hI

set_option maxRecDepth 100000 in
theorem lifted (os : Os) (started : os.Started) (H : Type) (enc : TypeId × Value → H) :
    ReturnsInHanded {} Try.checked os 4 .any (Rows.bagPlaysSpec.pre6 enc Try.prog Try.f4 Rows.bagPlaysRow.domain false) (Rows.bagPlaysSpec.post enc Try.prog Try.f4 false true false false) := by
  refine returnsInHanded_of_change (C := Try.checked) own started (by kernel_rfl) Try.func4
    (ChangeSpec.witness6 (enc := enc) (C := Try.checked) false ⟨#[], #[.slice none 0 0], []⟩ 8 (by kernel_rfl) (by kernel_rfl) (by kernel_rfl) (by kernel_rfl)) ?_
  intro W base args ds gs before hval0 hW hcnd _
  have hval : ∀ (j : Nat) t v, Try.f4.params[j]? = some t → args[j]? = some v → Value.okWide Try.prog W .any base t v := hval0
  have hW' := hW
  obtain ⟨p, q, hA0, hV, rfl, hfz, hnd⟩ := hW
  have hA : DataW.TrodAll enc Try.prog W 0 (fun _ => true) true Try.f4.params.toList args.toList ds p := hA0
  rw [Try.params4] at hA hval
  obtain ⟨v0, vs0, d0, ds0, p0, q0, hargs, rfl, rfl, h0, r0⟩ := trodAll_cons hA
  obtain ⟨rfl, rfl, rfl⟩ := trodAll_nil r0
  obtain rfl : args = #[v0] := by cases args; simp_all
  obtain ⟨rfl, rfl⟩ := trodVars_none hV
  obtain ⟨a0, len0, cap0, rfl⟩ := okWide_slice Try.underlying35 (hval 0 35 v0 rfl rfl)
  have k0 := h0
  have lt0 : ∀ x ∈ p0, x.block < W.heap.size := by obtain ⟨m, hm⟩ := k0; exact DataW.trod_lt m _ _ _ hm
  obtain ⟨l0, w0⟩ := gsteps_open h0
  clear hA0 hval0
  refine (walk (.slice a0 len0 cap0) l0 W w0).mono fun e W' ⟨he, bel⟩ => ?_
  subst he
  exact ⟨_, rfl, _, _, _, [], _, [], hW', trodAll_mk1 (shut_bool Try.underlying4 _), (trodAll_cons_mk (Below.trod laidOut (by kernel_rfl) (of_decide_eq_true (by kernel_rfl)) k0 bel lt0) trodAll_mk0), rfl, bel.frame _, fun h => by cases h⟩

theorem over : Rows.bagPlaysRow.holds Try.pinned (OpenSpec.ofChange Rows.bagPlaysSpec) :=
  OpenClaim.holds_of_wide 4 Try.f4 rfl rfl rfl rfl rfl rfl rfl ⟨rfl, rfl, rfl, rfl, rfl⟩ rfl rfl rfl rfl rfl (by kernel_rfl) Try.func4 (by kernel_rfl)
    (of_decide_eq_true (by kernel_rfl)) (by unfold Func.isWrapper; first | (rw [if_pos (by decide +kernel)]; kernel_rfl) | (rw [if_neg (by decide +kernel)]; exact ⟨rfl, rfl⟩))
    (fun os started H enc _ => lifted os started H enc)
end Go.Proofs.Ytkflkkdfklbfpaa.BagPlays

namespace Go.Proofs.Ytkflkkdfklbfpaa
theorem bagPlays_holds : Rows.BagPlaysSaid := BagPlays.over
#print axioms bagPlays_holds
end Go.Proofs.Ytkflkkdfklbfpaa
