/-
  A LOG AS PLAIN DATA: its requests' places by client and by id, the numbers that rise, what the first of them make of a store. No condition.
-/
import Derived.Test.YtenjjgghoacboaaLnV
namespace Go.Proofs.Ytenjjgghoacboaa
open Go.RowKit

theorem snoc_ind {P : List ReqV → Prop} (h0 : P []) (h1 : ∀ L r, P L → P (L ++ [r])) (L : List ReqV) : P L := by
  have : ∀ R : List ReqV, P R.reverse := fun R => by
    induction R with
    | nil => exact h0
    | cons r R ih => rw [List.reverse_cons]; exact h1 _ _ ih
  have h := this L.reverse
  rwa [List.reverse_reverse] at h
def rq0 : ReqV := ⟨0, 0, 0, 0, 0, ⟨#[]⟩⟩
/-- The request at the place k + 1. -/
def atL (L : List ReqV) (k : Nat) : ReqV := L.getD k rq0
theorem atL_lt {L : List ReqV} {k : Nat} (h : k < L.length) : atL L k = L[k] := by simp [atL, h]
theorem atL_app {L : List ReqV} (r : ReqV) {k : Nat} (h : k < L.length) : atL (L ++ [r]) k = atL L k := by
  unfold atL
  rw [List.getD_eq_getElem?_getD, List.getD_eq_getElem?_getD, List.getElem?_append_left h]
theorem atL_end (L : List ReqV) (r : ReqV) : atL (L ++ [r]) L.length = r := by simp [atL]
theorem atL_take {L : List ReqV} {k n : Nat} (h : k < n) : atL (L.take n) k = atL L k := by
  unfold atL
  rw [List.getD_eq_getElem?_getD, List.getD_eq_getElem?_getD, List.getElem?_take, if_pos h]

/-- Of the first n numbers those that are so. -/
def whichN (p : Nat → Bool) (n : Nat) : List Nat := (List.range n).filter p
theorem whichN_yes {p : Nat → Bool} {n : Nat} (h : p n = true) : whichN p (n + 1) = whichN p n ++ [n] := by simp [whichN, List.range_succ, h]
theorem whichN_no {p : Nat → Bool} {n : Nat} (h : p n = false) : whichN p (n + 1) = whichN p n := by simp [whichN, List.range_succ, h]
theorem whichN_congr {p p' : Nat → Bool} {n : Nat} (h : ∀ k, k < n → p k = p' k) : whichN p n = whichN p' n :=
  List.filter_congr fun k hk => h k (List.mem_range.1 hk)
theorem whichN_mem {p : Nat → Bool} {n k : Nat} : k ∈ whichN p n ↔ k < n ∧ p k = true := by simp [whichN]
theorem whichN_len (p : Nat → Bool) (n : Nat) : (whichN p n).length ≤ n := by
  have := List.length_filter_le p (List.range n)
  simpa [whichN] using this
theorem whichN_rise (p : Nat → Bool) : ∀ (n i j : Nat) (hj : j < (whichN p n).length) (hi : i < j), (whichN p n)[i] < (whichN p n)[j]
  | 0, i, j, hj, _ => by simp [whichN] at hj
  | n + 1, i, j, hj, hi => by
    cases h : p n with
    | false =>
      have e := whichN_no h
      have hj' : j < (whichN p n).length := by rwa [e] at hj
      have := whichN_rise p n i j hj' hi
      simpa [e] using this
    | true =>
      have e := whichN_yes h
      have hl : (whichN p (n + 1)).length = (whichN p n).length + 1 := by rw [e]; simp
      by_cases hjl : j < (whichN p n).length
      · have := whichN_rise p n i j hjl hi
        have h1 : (whichN p (n + 1))[i] = (whichN p n)[i] := by simp only [e]; exact List.getElem_append_left (by omega)
        have h2 : (whichN p (n + 1))[j] = (whichN p n)[j] := by simp only [e]; exact List.getElem_append_left hjl
        rw [h1, h2]; exact this
      · have hje : j = (whichN p n).length := by omega
        have hi' : i < (whichN p n).length := by omega
        have h1 : (whichN p (n + 1))[i] = (whichN p n)[i] := by simp only [e]; exact List.getElem_append_left hi'
        have h2 : (whichN p (n + 1))[j] = n := by subst hje; simp only [e]; simp
        rw [h1, h2]
        exact (whichN_mem.1 (List.getElem_mem hi')).1

def ofCl (L : List ReqV) (c : Nat) (k : Nat) : Bool := decide ((atL L k).client = (c : Int))
def ofId (L : List ReqV) (i : Nat) (k : Nat) : Bool := decide ((atL L k).id = (i : Int))
/-- A client's numbers of places (from nought on). -/
def clN (L : List ReqV) (c : Nat) : List Nat := whichN (ofCl L c) L.length
def idN (L : List ReqV) (i : Nat) : List Nat := whichN (ofId L i) L.length
theorem clN_app (L : List ReqV) (r : ReqV) (c : Nat) : clN (L ++ [r]) c = clN L c ++ if r.client = (c : Int) then [L.length] else [] := by
  have hl : (L ++ [r]).length = L.length + 1 := by simp
  have hc : whichN (ofCl (L ++ [r]) c) L.length = clN L c := whichN_congr fun k hk => by unfold ofCl; rw [atL_app r hk]
  unfold clN
  rw [hl]
  by_cases h : r.client = (c : Int)
  · rw [whichN_yes (by unfold ofCl; rw [atL_end]; exact decide_eq_true h), hc, if_pos h]; rfl
  · rw [whichN_no (by unfold ofCl; rw [atL_end]; exact decide_eq_false h), hc, if_neg h]; exact (List.append_nil _).symm
theorem idN_app (L : List ReqV) (r : ReqV) (i : Nat) : idN (L ++ [r]) i = idN L i ++ if r.id = (i : Int) then [L.length] else [] := by
  have hl : (L ++ [r]).length = L.length + 1 := by simp
  have hc : whichN (ofId (L ++ [r]) i) L.length = idN L i := whichN_congr fun k hk => by unfold ofId; rw [atL_app r hk]
  unfold idN
  rw [hl]
  by_cases h : r.id = (i : Int)
  · rw [whichN_yes (by unfold ofId; rw [atL_end]; exact decide_eq_true h), hc, if_pos h]; rfl
  · rw [whichN_no (by unfold ofId; rw [atL_end]; exact decide_eq_false h), hc, if_neg h]; exact (List.append_nil _).symm
theorem clN_mem {L : List ReqV} {c k : Nat} : k ∈ clN L c ↔ k < L.length ∧ (atL L k).client = (c : Int) := by
  unfold clN; rw [whichN_mem]; unfold ofCl; rw [decide_eq_true_eq]

/-- A client's places. -/
def placesL (L : List ReqV) (c : Nat) : List Int := (clN L c).map fun k : Nat => (k : Int) + 1
theorem placesL_app (L : List ReqV) (r : ReqV) (c : Nat) : placesL (L ++ [r]) c = placesL L c ++ if r.client = (c : Int) then [(L.length : Int) + 1] else [] := by
  unfold placesL
  rw [clN_app, List.map_append]
  split <;> rfl
theorem placesL_len (L : List ReqV) (c : Nat) : (placesL L c).length = (clN L c).length := by simp [placesL]
theorem placesL_le (L : List ReqV) (c : Nat) : (placesL L c).length ≤ L.length := by rw [placesL_len]; exact whichN_len _ _
theorem placesL_get (L : List ReqV) (c j : Nat) (h : j < (clN L c).length) : (placesL L c)[j]? = some (((clN L c)[j] : Int) + 1) := by simp [placesL, h]
/-- The last place of a request for an id. -/
def lastL (L : List ReqV) (i : Nat) : Int := match (idN L i).getLast? with | none => 0 | some k => (k : Int) + 1
theorem lastL_app (L : List ReqV) (r : ReqV) (i : Nat) : lastL (L ++ [r]) i = if r.id = (i : Int) then (L.length : Int) + 1 else lastL L i := by
  unfold lastL
  rw [idN_app]
  by_cases h : r.id = (i : Int)
  · rw [if_pos h, if_pos h]; simp
  · rw [if_neg h, if_neg h, List.append_nil]
theorem lastL_nil (i : Nat) : lastL [] i = 0 := rfl
/-- The last number of a client. -/
def seqL (L : List ReqV) (c : Nat) : Int := match (clN L c).getLast? with | none => 0 | some k => (atL L k).seq
theorem seqL_nil (c : Nat) : seqL [] c = 0 := rfl
theorem seqL_app (L : List ReqV) (r : ReqV) (c : Nat) : seqL (L ++ [r]) c = if r.client = (c : Int) then r.seq else seqL L c := by
  unfold seqL
  rw [clN_app]
  by_cases hr : r.client = (c : Int)
  · rw [if_pos hr, if_pos hr]; simp [atL_end]
  · rw [if_neg hr, if_neg hr, List.append_nil]
    cases h : (clN L c).getLast? with
    | none => rfl
    | some k =>
      have hk : k ∈ clN L c := List.mem_of_getLast? h
      show (atL (L ++ [r]) k).seq = _
      rw [atL_app r (clN_mem.1 hk).1]

/-- Each of a log's requests may be, writes, and has a number above its client's last one ahead. -/
def okL (L : List ReqV) : Prop := ∀ k, k < L.length → (atL L k).puts ∧ seqL (L.take k) (atL L k).client.toNat < (atL L k).seq
theorem okL_nil : okL [] := fun k hk => by simp at hk
theorem take_app_le {L : List ReqV} (r : ReqV) {k : Nat} (h : k ≤ L.length) : (L ++ [r]).take k = L.take k := by
  rw [List.take_append_of_le_length h]
theorem okL_app {L : List ReqV} {r : ReqV} (h : okL L) (hp : r.puts) (hs : seqL L r.client.toNat < r.seq) : okL (L ++ [r]) := by
  intro k hk
  rw [List.length_append, List.length_singleton] at hk
  by_cases e : k = L.length
  · subst e
    rw [atL_end, take_app_le r (Nat.le_refl _), List.take_length]
    exact ⟨hp, hs⟩
  · rw [atL_app r (by omega), take_app_le r (by omega)]
    exact h k (by omega)
theorem okL_take {L : List ReqV} (h : okL L) (n : Nat) : okL (L.take n) := by
  intro k hk
  rw [List.length_take] at hk
  rw [atL_take (by omega), List.take_take, Nat.min_eq_left (by omega)]
  exact h k (by omega)
theorem take_next {L : List ReqV} {k : Nat} (h : k < L.length) : L.take (k + 1) = L.take k ++ [atL L k] := by
  rw [List.take_succ_eq_append_getElem h, atL_lt h]

/-- What requests make of a store. -/
def stoOf (q : Int) (L : List ReqV) : StoV := L.foldl (fun s r => (putA s r).s) (newV q)
theorem stoOf_nil (q : Int) : stoOf q [] = newV q := rfl
theorem stoOf_app (q : Int) (L : List ReqV) (r : ReqV) : stoOf q (L ++ [r]) = (putA (stoOf q L) r).s := by simp [stoOf]
theorem stoOf_quota (q : Int) (L : List ReqV) : (stoOf q L).quota = q := by
  refine snoc_ind (P := fun L => (stoOf q L).quota = q) rfl (fun L r ih => ?_) L
  rw [stoOf_app, putA_quota, ih]
theorem stoOf_fit {q : Int} (h1 : 1 ≤ q) (h2 : q ≤ 100) (L : List ReqV) : Fit (stoOf q L) L.length := by
  refine snoc_ind (P := fun L => Fit (stoOf q L) L.length) (Fit.new q h1 h2) (fun L r ih => ?_) L
  rw [stoOf_app, List.length_append]
  exact ih.put r
/-- In a log's order each request is done, and its number is the client's last. -/
theorem stoOf_seq (q : Int) (L : List ReqV) (h : okL L) : (∀ c : Nat, c < 4 → ((stoOf q L).cl c).seq = seqL L c) ∧ (stoOf q L).places = L.length := by
  revert h
  refine snoc_ind (P := fun L => okL L → (∀ c : Nat, c < 4 → ((stoOf q L).cl c).seq = seqL L c) ∧ (stoOf q L).places = L.length) (fun _ => ⟨fun _ _ => rfl, rfl⟩) (fun L r ih => ?_) L
  · intro h
    have hL : okL L := by
      have := okL_take h L.length
      rwa [take_app_le r (Nat.le_refl _), List.take_length] at this
    obtain ⟨i1, i2⟩ := ih hL
    have hr := h L.length (by simp)
    rw [atL_end, take_app_le r (Nat.le_refl _), List.take_length] at hr
    obtain ⟨hp, hs⟩ := hr
    have hm := hp.1
    unfold ReqV.may at hm
    have hc : r.client.toNat < 4 := by omega
    have hn : ¬ r.seq ≤ ((stoOf q L).cl r.client.toNat).seq := by rw [i1 _ hc]; omega
    have e : stoOf q (L ++ [r]) = putV (stoOf q L) r.client.toNat r.id.toNat r.seq r.kind r.mtch r.data := by rw [stoOf_app, putA_done _ r hp hn]
    refine ⟨fun c hc' => ?_, ?_⟩
    · rw [e, seqL_app]
      show (updF (stoOf q L).cl r.client.toNat _ c).seq = _
      by_cases ec : c = r.client.toNat
      · subst ec
        rw [updF_same, if_pos (by omega)]
      · rw [updF_other _ _ _ _ ec, if_neg (by omega), i1 c hc']
    · rw [e]
      show (stoOf q L).places + 1 = _
      rw [i2]
      simp
theorem putA_okL (q : Int) {L : List ReqV} (h : okL L) {k : Nat} (hk : k < L.length) : (putA (stoOf q (L.take k)) (atL L k)).err = 0 ∧ (putA (stoOf q (L.take k)) (atL L k)).s = stoOf q (L.take (k + 1)) := by
  obtain ⟨hp, hs⟩ := h k hk
  have hm := hp.1
  unfold ReqV.may at hm
  have h1 := (stoOf_seq q (L.take k) (okL_take h k)).1 (atL L k).client.toNat (by omega)
  refine ⟨?_, by rw [take_next hk, stoOf_app]⟩
  rw [putA_done _ _ hp (by rw [h1]; omega)]

/-- Of one client, later ones have greater numbers. -/
theorem seqL_ge {L : List ReqV} (h : okL L) {k : Nat} (hk : k < L.length) : (atL L k).seq ≤ seqL L (atL L k).client.toNat := by
  revert h hk
  refine snoc_ind (P := fun L => okL L → k < L.length → (atL L k).seq ≤ seqL L (atL L k).client.toNat) (fun _ hk => by simp at hk) (fun L r ih => ?_) L
  · intro h hk
    have hL : okL L := by
      have := okL_take h L.length
      rwa [take_app_le r (Nat.le_refl _), List.take_length] at this
    have hr := h L.length (by simp)
    rw [atL_end, take_app_le r (Nat.le_refl _), List.take_length] at hr
    obtain ⟨hp, hs⟩ := hr
    have hm := hp.1
    unfold ReqV.may at hm
    rw [List.length_append, List.length_singleton] at hk
    by_cases e : k = L.length
    · subst e
      rw [atL_end, seqL_app, if_pos (by omega)]
      exact Int.le_refl _
    · have := ih hL (by omega)
      rw [atL_app r (by omega), seqL_app]
      split
      · rename_i hc
        have e2 : (atL L k).client.toNat = r.client.toNat := by rw [hc, Int.toNat_natCast]
        rw [e2] at this
        omega
      · exact this
theorem seq_rise {L : List ReqV} (h : okL L) {i j : Nat} (hij : i < j) (hj : j < L.length) (hc : (atL L i).client = (atL L j).client) : (atL L i).seq < (atL L j).seq := by
  have h1 := (h j hj).2
  have h2 := seqL_ge (okL_take h j) (k := i) (by rw [List.length_take]; omega)
  rw [atL_take hij, hc] at h2
  omega
theorem clN_seq {L : List ReqV} (h : okL L) (c : Nat) {i j : Nat} (hij : i < j) (hj : j < (clN L c).length) : (atL L (clN L c)[i]).seq < (atL L (clN L c)[j]).seq := by
  have h1 := whichN_rise (ofCl L c) L.length i j hj hij
  have m1 := clN_mem.1 (List.getElem_mem (show i < (clN L c).length by omega))
  have m2 := clN_mem.1 (List.getElem_mem hj)
  exact seq_rise h h1 m2.1 (m1.2.trans m2.2.symm)
/-- Where a client's request of a number stands. -/
def Stands (L : List ReqV) (c s : Int) (k : Nat) : Prop := k < L.length ∧ (atL L k).client = c ∧ (atL L k).seq = s
theorem Stands.one {L : List ReqV} (h : okL L) {c s : Int} {i j : Nat} (hi : Stands L c s i) (hj : Stands L c s j) : i = j := by
  obtain ⟨a1, a2, a3⟩ := hi
  obtain ⟨b1, b2, b3⟩ := hj
  rcases Nat.lt_trichotomy i j with hl | hl | hl
  · have := seq_rise h hl b1 (a2.trans b2.symm); omega
  · exact hl
  · have := seq_rise h hl a1 (b2.trans a2.symm); omega
end Go.Proofs.Ytenjjgghoacboaa
