/-
  BOTH CLIENTS, the program's and the reference's, in one memory: a call of either leaves the other. No condition but that their numbers are such as a client has.
-/
import Derived.Test.YtpcbpimlakehcaaClQC
import Derived.Test.YtpcbpimlakehcaaItemT
namespace Go.Proofs.Ytpcbpimlakehcaa
open Go.RowKit

/-- A comparison (!=) of two structs whose run lies as a fact. -/
theorem exec_ne_both {P : Program} {o : Oper} {a : Act} {t t2 : TypeId} {x y : Operand} {v : Value} {w : World} (cx cy : Array Value) (hg : P.eqGuardType P.depth t = false) (ho : o.op = .binOp .neq t x y t2) (hx : a.eval x = .agg cx) (hy : a.eval y = .agg cy)
    (h : (binOp .neq t (.agg cx) (.agg cy)).run P w = .ok v w) :
    (execOp a.eval o).run P w = .ok (.value v) w := by
  unfold execOp
  rw [ho]
  simp only [hx, hy]
  have hge := run_eqGuard_agg (P := P) (w := w) BinOp.neq t x y cx cy hg
  generalize binOp .neq t (.agg cx) (.agg cy) = B at h ⊢
  generalize eqGuard .neq t x y (.agg cx) (.agg cy) = E at hge ⊢
  simp [go_sem, hge, h]
/-- A request is not other than itself. -/
theorem run_ne_self (cl sq kd id mt : Int) (dt : ByteArray) (w : World) :
    (binOp .neq 33 (.agg #[.int .i64 cl, .int .i64 sq, .int .i64 kd, .int .i64 id, .int .i64 mt, .string dt]) (.agg #[.int .i64 cl, .int .i64 sq, .int .i64 kd, .int .i64 id, .int .i64 mt, .string dt])).run Try.prog w = .ok (.bool false) w := by
  rw [run_neq_struct, run_equalIn_agg _ _ _ _ _ (by kernel_rfl) (by kernel_rfl)]
  simp [Program.fieldsOf, Try.underlying33, Op.eqFields, go_sem]

structure BO (w : World) (b c : Nat) (s r : CliV) (u : World) : Prop where
  co : CO w.heap.size w b s u
  q : QClB u c r
  ne : b < c
section
variable {w u u' : World} {b c : Nat} {s s' r r' : CliV}
theorem BO.on (h : BO w b c s r u) (hb : Below u.heap.size u u') : BO w b c s r u' := ⟨h.co.on hb, h.q.on hb, h.ne⟩
theorem BO.turnP (h : BO w b c s r u) (hc : CO w.heap.size w b s' u') (ho : Only (· = b) u u') : BO w b c s' r u' :=
  ⟨hc, h.q.keep ho (by have := h.ne; omega) (fun k cs hk e => by
    subst e
    obtain ⟨kv, hb, _⟩ := h.co.c.blk
    rw [hb] at hk
    simp only [Option.some.injEq, Obj.cells.injEq] at hk
    exact absurd hk.2.1 cli_ty), h.ne⟩
theorem BO.turnQ (h : BO w b c s r u) (hq : QClB u' c r') (ho : Only (· = c) u u') : BO w b c s r' u' :=
  ⟨⟨h.co.c.keep ho (by have := h.ne; omega) (fun k cs hk e => by
    subst e
    obtain ⟨a, kv, hb, _⟩ := h.q
    rw [hb] at hk
    simp only [Option.some.injEq, Obj.cells.injEq] at hk
    exact absurd hk.2.1 qcli_ty), ho.below h.co.bel (fun _ e => by have := h.ne; have := h.co.low; omega) (Nat.le_trans h.co.le h.co.bel.size), h.co.low, h.co.le⟩, hq, h.ne⟩
theorem boask1 (h : BO w b c s r u) (now : Int) (q : ReqV) (hs : q.data.size ≤ 9223372036854775807) :
    Calls Try.prog 17 #[.pointer (some ⟨b, 0, none⟩), .int .i64 now, q.val] u fun e w' => e = .returned (.tuple #[.int .i64 (caskTo s now q), .int .i64 (caskE s now q)]) ∧ BO w b c (caskS s now q) r w' ∧ Only (· = b) u w' :=
  (coask_r h.co now q hs).mono fun _ _ ⟨he, hc, ho⟩ => ⟨he, h.turnP hc ho, ho⟩
theorem boask2 (h : BO w b c s r u) (ok : r.ok) (now : Int) (q : ReqV) (hs : q.data.size ≤ 9223372036854775807) :
    Calls Try.prog 21 #[.pointer (some ⟨c, 0, none⟩), .int .i64 now, q.val] u fun e w' => e = .returned (.tuple #[.int .i64 (caskTo r now q), .int .i64 (caskE r now q)]) ∧ BO w b c s (caskS r now q) w' ∧ Only (· = c) u w' :=
  (qcoask_r h.q ok now q hs).mono fun _ _ ⟨he, hc, ho⟩ => ⟨he, h.turnQ hc ho, ho⟩
theorem botick1 (h : BO w b c s r u) (now : Int) (hn : now ≤ 9223372036854775807) (ht : s.tries ≤ 99999) :
    Calls Try.prog 19 #[.pointer (some ⟨b, 0, none⟩), .int .i64 now] u fun e w' => e = .returned (.tuple #[.int .i64 (ctickTo s now), .bool (decide (dueV s now))]) ∧ BO w b c (ctickS s now) r w' ∧ Only (· = b) u w' :=
  (cotick_r h.co now hn ht).mono fun _ _ ⟨he, hc, ho⟩ => ⟨he, h.turnP hc ho, ho⟩
theorem botick2 (h : BO w b c s r u) (ok : r.ok) (now : Int) (hn : now ≤ 9223372036854775807) (ht : r.tries ≤ 99999) :
    Calls Try.prog 22 #[.pointer (some ⟨c, 0, none⟩), .int .i64 now] u fun e w' => e = .returned (.tuple #[.int .i64 (ctickTo r now), .bool (decide (dueV r now))]) ∧ BO w b c s (ctickS r now) w' ∧ Only (· = c) u w' :=
  (qcotick_r h.q ok now hn ht).mono fun _ _ ⟨he, hc, ho⟩ => ⟨he, h.turnQ hc ho, ho⟩
theorem botold1 (h : BO w b c s r u) (k ep : Int) (v : Value) (L : List Int) (hI : Ints u u.heap.size v L) :
    Calls Try.prog 18 #[.pointer (some ⟨b, 0, none⟩), .int .i64 k, .agg #[.int .i64 ep, v]] u fun e w' => e = .returned (.tuple #[]) ∧ BO w b c (ctoldS s k ep L) r w' ∧ Only (· = b) u w' :=
  (cotold_r h.co k ep v L hI).mono fun _ _ ⟨he, hc, ho⟩ => ⟨he, h.turnP hc ho, ho⟩
theorem botold2 (h : BO w b c s r u) (ok : r.ok) (k ep : Int) (v : Value) (L : List Int) (hI : Ints u u.heap.size v L) :
    Calls Try.prog 23 #[.pointer (some ⟨c, 0, none⟩), .int .i64 k, .agg #[.int .i64 ep, v]] u fun e w' => e = .returned (.tuple #[]) ∧ BO w b c s (ctoldS r k ep L) w' ∧ Only (· = c) u w' :=
  (qcotold_r h.q ok k ep v L hI).mono fun _ _ ⟨he, hc, ho⟩ => ⟨he, h.turnQ hc ho, ho⟩
theorem boans1 (h : BO w b c s r u) (k : Int) :
    Calls Try.prog 24 #[.pointer (some ⟨b, 0, none⟩), .int .i64 k] u fun e w' => e = .returned (.bool (decide (forV s k))) ∧ BO w b c (cansS s k) r w' ∧ Only (· = b) u w' :=
  (coans_r h.co k).mono fun _ _ ⟨he, hc, ho⟩ => ⟨he, h.turnP hc ho, ho⟩
theorem boans2 (h : BO w b c s r u) (ok : r.ok) (k : Int) :
    Calls Try.prog 25 #[.pointer (some ⟨c, 0, none⟩), .int .i64 k] u fun e w' => e = .returned (.bool (decide (forV r k))) ∧ BO w b c s (cansS r k) w' ∧ Only (· = c) u w' :=
  (qclans_r h.q ok k).mono fun _ _ ⟨he, hc, ho⟩ => ⟨he, h.turnQ hc ho, ho⟩
end
end Go.Proofs.Ytpcbpimlakehcaa
