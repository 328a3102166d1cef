/-
  WHAT A CLIENT TELLS AND BECOMES as plain functions: one contract a call, for any step. No condition but that its numbers are such as a client has.
-/
import Derived.Test.YtpcbpimlakehcaaClT
namespace Go.Proofs.Ytpcbpimlakehcaa
open Go.RowKit

def caskGood (s : CliV) (now : Int) (q : ReqV) : Prop := (0 ≤ now ∧ now ≤ 1099511627776) ∧ (askQ s q).may
instance (s : CliV) (now : Int) (q : ReqV) : Decidable (caskGood s now q) := by unfold caskGood; infer_instance
def caskE (s : CliV) (now : Int) (q : ReqV) : Int := if caskGood s now q then (if 0 < s.tries then 4 else 0) else 1
def caskTo (s : CliV) (now : Int) (q : ReqV) : Int := if caskE s now q = 0 then targV s.L s.n 1 (wrQ q) else 0
def caskS (s : CliV) (now : Int) (q : ReqV) : CliV := if caskE s now q = 0 then s.ask now q else s
def ctickTo (s : CliV) (now : Int) : Int := if dueV s now then targV s.L s.n (s.tries + 1) (wrQ s.q) else -1
def ctickS (s : CliV) (now : Int) : CliV := if dueV s now then s.tryAt now else s
def ctoldS (s : CliV) (k ep : Int) (L : List Int) : CliV := if tellV s k ep L then s.tell ep L else s
def cansS (s : CliV) (k : Int) : CliV := if forV s k then s.rest else s

section
variable {n b : Nat} {w u : World} {s : CliV}
theorem coask_r (H : CO n w b s u) (now : Int) (q : ReqV) (hs : q.data.size ≤ 9223372036854775807) :
    Calls Try.prog 17 #[.pointer (some ⟨b, 0, none⟩), .int .i64 now, q.val] u fun e w' => e = .returned (.tuple #[.int .i64 (caskTo s now q), .int .i64 (caskE s now q)]) ∧ CO n w b (caskS s now q) w' ∧ Only (· = b) u w' := by
  unfold caskTo caskS caskE
  by_cases hg : caskGood s now q
  · rw [if_pos hg]
    by_cases ht : 0 < s.tries
    · rw [if_pos ht, if_neg (by decide), if_neg (by decide)]
      exact (clask_state H.c now q hg.1.1 hg.1.2 hs hg.2 ht).mono fun _ _ ⟨he, hb⟩ => ⟨he, H.on hb, .of hb⟩
    · rw [if_neg ht, if_pos rfl, if_pos rfl]
      exact (clask_ok H.c now q hg.1.1 hg.1.2 hs hg.2 ht).mono fun _ _ ⟨he, hc, ho⟩ => ⟨he, H.turn hc ho, ho⟩
  · rw [if_neg hg, if_neg (by decide), if_neg (by decide)]
    by_cases h1 : now < 0 ∨ 1099511627776 < now
    · exact (clask_time H.c now q h1).mono fun _ _ ⟨he, hb⟩ => ⟨he, H.on hb, .of hb⟩
    · have h2 : 0 ≤ now ∧ now ≤ 1099511627776 := ⟨by omega, by omega⟩
      exact (clask_arg H.c now q h2.1 h2.2 hs (fun hm => hg ⟨h2, hm⟩)).mono fun _ _ ⟨he, hb⟩ => ⟨he, H.on hb, .of hb⟩
theorem cotick_r (H : CO n w b s u) (now : Int) (hn : now ≤ 9223372036854775807) (ht : s.tries ≤ 99999) :
    Calls Try.prog 19 #[.pointer (some ⟨b, 0, none⟩), .int .i64 now] u fun e w' => e = .returned (.tuple #[.int .i64 (ctickTo s now), .bool (decide (dueV s now))]) ∧ CO n w b (ctickS s now) w' ∧ Only (· = b) u w' := by
  unfold ctickTo ctickS
  by_cases hd : dueV s now
  · rw [if_pos hd, if_pos hd, decide_eq_true hd]
    exact (cltick_yes H.c now hn hd ht).mono fun _ _ ⟨he, hc, ho⟩ => ⟨he, H.turn hc ho, ho⟩
  · rw [if_neg hd, if_neg hd, decide_eq_false hd]
    exact (cltick_no H.c now hn hd).mono fun _ _ ⟨he, hb⟩ => ⟨he, H.on hb, .of hb⟩
theorem cotold_r (H : CO n w b s u) (k ep : Int) (v : Value) (L : List Int) (hI : Ints u u.heap.size v L) :
    Calls Try.prog 18 #[.pointer (some ⟨b, 0, none⟩), .int .i64 k, .agg #[.int .i64 ep, v]] u fun e w' => e = .returned (.tuple #[]) ∧ CO n w b (ctoldS s k ep L) w' ∧ Only (· = b) u w' := by
  unfold ctoldS
  by_cases hd : tellV s k ep L
  · rw [if_pos hd]
    exact (cltold_yes H.c k ep v L hI hd).mono fun _ _ ⟨he, hc, ho⟩ => ⟨he, H.turn hc ho, ho⟩
  · rw [if_neg hd]
    exact (cltold_no H.c k ep v L hI hd).mono fun _ _ ⟨he, hb⟩ => ⟨he, H.on hb, .of hb⟩
theorem coans_r (H : CO n w b s u) (k : Int) :
    Calls Try.prog 24 #[.pointer (some ⟨b, 0, none⟩), .int .i64 k] u fun e w' => e = .returned (.bool (decide (forV s k))) ∧ CO n w b (cansS s k) w' ∧ Only (· = b) u w' := by
  unfold cansS
  by_cases hd : forV s k
  · rw [if_pos hd, decide_eq_true hd]
    exact (clanswer_yes H.c k hd).mono fun _ _ ⟨he, hc, ho⟩ => ⟨he, H.turn hc ho, ho⟩
  · rw [if_neg hd, decide_eq_false hd]
    exact (clanswer_no H.c k hd).mono fun _ _ ⟨he, hw⟩ => ⟨he, hw ▸ H, hw ▸ Only.refl _ _⟩
theorem copend_r (H : CO n w b s u) :
    Calls Try.prog 26 #[.pointer (some ⟨b, 0, none⟩)] u fun e w' => e = .returned (.tuple #[s.q.val, .bool (decide (0 < s.tries))]) ∧ CO n w b s w' ∧ Below u.heap.size u w' :=
  (clpending_r H.c _ rfl).mono fun _ _ ⟨he, hb⟩ => ⟨he, H.on hb, hb⟩
theorem coseq_r (H : CO n w b s u) : Calls Try.prog 27 #[.pointer (some ⟨b, 0, none⟩)] u fun e w' => e = .returned (.int .i64 s.seq) ∧ u = w' := clseq_r H.c
theorem cotries_r (H : CO n w b s u) : Calls Try.prog 20 #[.pointer (some ⟨b, 0, none⟩)] u fun e w' => e = .returned (.int .i64 s.tries) ∧ u = w' := cltries_r H.c
end

/-! ### what stays -/
theorem caskS_fix (s : CliV) (now : Int) (q : ReqV) : (caskS s now q).id = s.id ∧ (caskS s now q).n = s.n ∧ (caskS s now q).tries ≤ max s.tries 1 := by
  unfold caskS
  split
  · exact ⟨rfl, rfl, by show 1 ≤ _; omega⟩
  · exact ⟨rfl, rfl, by omega⟩
theorem ctickS_fix (s : CliV) (now : Int) : (ctickS s now).id = s.id ∧ (ctickS s now).n = s.n ∧ (ctickS s now).tries ≤ s.tries + 1 ∧ (ctickS s now).seq = s.seq ∧ ((0 < (ctickS s now).tries) ↔ (0 < s.tries)) := by
  unfold ctickS
  split
  · rename_i h
    exact ⟨rfl, rfl, Nat.le_refl _, rfl, ⟨fun _ => h.1, fun _ => Nat.succ_pos _⟩⟩
  · exact ⟨rfl, rfl, by omega, rfl, Iff.rfl⟩
theorem ctoldS_fix (s : CliV) (k ep : Int) (L : List Int) : (ctoldS s k ep L).id = s.id ∧ (ctoldS s k ep L).n = s.n ∧ (ctoldS s k ep L).tries = s.tries ∧ (ctoldS s k ep L).seq = s.seq := by
  unfold ctoldS
  split <;> exact ⟨rfl, rfl, rfl, rfl⟩
theorem cansS_fix (s : CliV) (k : Int) : (cansS s k).id = s.id ∧ (cansS s k).n = s.n ∧ (cansS s k).tries ≤ s.tries ∧ (cansS s k).seq = s.seq ∧ ((0 < (cansS s k).tries) ↔ (0 < s.tries ∧ ¬ forV s k)) := by
  unfold cansS
  split
  · rename_i h
    exact ⟨rfl, rfl, Nat.zero_le _, rfl, ⟨fun h2 => absurd h2 (Nat.lt_irrefl _), fun h2 => absurd h h2.2⟩⟩
  · rename_i h
    exact ⟨rfl, rfl, Nat.le_refl _, rfl, ⟨fun h2 => ⟨h2, h⟩, fun h2 => h2.1⟩⟩
end Go.Proofs.Ytpcbpimlakehcaa
