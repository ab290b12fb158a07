/- What is sent when nothing was on its way, on plain data: each list has what goes its way, in its order; none is lost. -/
import Derived.Test.YtcdfaimpbbjioaaDoorNMake
namespace Go.Proofs.YtcdfaimpbbjioaaDoor.Nt
open Go.ChangeShapes Go.WideShapes Go.ChangeAt Go.RowKit
set_option linter.unusedVariables false

def plcN (s : Int) (m : MV) : Nat := (m.frm * s + m.dst).toNat
def way (s : Int) (q : Nat) (l : List MV) : List MV := l.filter fun m => plcN s m == q
theorem getD_setL (xs : List (List MV)) (k i : Nat) (x : List MV) (hk : k < xs.length) : (xs.set k x).getD i [] = if i = k then x else xs.getD i [] := by
  by_cases h : i = k
  · subst h; simp [List.getD, hk]
  · simp [List.getD, h, Ne.symm h]
theorem total_set {ll : List (List MV)} {k : Nat} (hk : k < ll.length) (m : MV) : total (ll.set k (ll.getD k [] ++ [m])) = total ll + 1 := by
  induction ll generalizing k with
  | nil => simp at hk
  | cons l r ih =>
    cases k with
    | zero => simp [total]; omega
    | succ k =>
      have := ih (k := k) (by simpa using hk)
      simp only [total, List.set_cons_succ, List.map_cons, List.sum_cons, List.getD_cons_succ] at *
      omega
theorem take_snoc {xs : List MV} {k : Nat} (hk : k < xs.length) : xs.take (k + 1) = xs.take k ++ [xs.getD k default] := by
  rw [List.take_succ_eq_append_getElem hk]; simp [List.getD, hk]
theorem sent_at {s : Int} {n : Nat} {ms : List MV} (hp : ∀ m ∈ ms, plcN s m < n) (hl : ms.length ≤ 30) : ∀ k, k ≤ ms.length → (∀ q, (sent s (List.replicate n []) (ms.take k)).getD q [] = way s q (ms.take k)) ∧ total (sent s (List.replicate n []) (ms.take k)) = k := by
  intro k
  induction k with
  | zero =>
    intro _
    refine ⟨fun q => ?_, ?_⟩
    · by_cases hq : q < n <;> simp [sent, way, List.getD, hq]
    · simp [sent, total]
  | succ k ih =>
    intro hk
    obtain ⟨h1, h2⟩ := ih (by omega)
    have hk' : k < ms.length := by omega
    rw [take_snoc hk', sent_snoc]
    have hm : ms.getD k default ∈ ms := getD_mem hk'
    have hpm := hp _ hm
    obtain ⟨m, em⟩ : ∃ m, m = ms.getD k default := ⟨_, rfl⟩
    rw [← em] at hpm ⊢
    obtain ⟨ll, ell⟩ : ∃ ll, ll = sent s (List.replicate n []) (ms.take k) := ⟨_, rfl⟩
    rw [← ell] at h1 h2 ⊢
    have hll : ll.length = n := by rw [ell, sent_len, List.length_replicate]
    have hroom : (ll.getD (plcN s m) []).length < 30 := by
      rw [h1]
      have := List.length_filter_le (fun m' => plcN s m' == plcN s m) (ms.take k)
      simp only [way]
      have h3 : (ms.take k).length ≤ k := by simp; omega
      omega
    have e : sendTo s ll m = ll.set (plcN s m) (ll.getD (plcN s m) [] ++ [m]) := by
      show (if (ll.getD (plcN s m) []).length < 30 then ll.set (plcN s m) (ll.getD (plcN s m) [] ++ [m]) else ll) = _
      rw [if_pos hroom]
    rw [e]
    refine ⟨fun q => ?_, ?_⟩
    · rw [getD_setL _ _ _ _ (by rw [hll]; exact hpm), h1, h1]
      split
      · rename_i e
        subst e
        simp [way]
      · rename_i hne
        have : (plcN s m == q) = false := by simp; exact fun e => hne e.symm
        simp [way, this]
    · rw [total_set (by rw [hll]; exact hpm), h2]
theorem sent_all {s : Int} {n : Nat} {ms : List MV} (hp : ∀ m ∈ ms, plcN s m < n) (hl : ms.length ≤ 30) : (∀ q, (sent s (List.replicate n []) ms).getD q [] = way s q ms) ∧ total (sent s (List.replicate n []) ms) = ms.length := by
  have := sent_at hp hl ms.length (Nat.le_refl _)
  rwa [List.take_length] at this
theorem way_at {s : Int} {q j : Nat} {ms : List MV} (hj : j < ms.length) (hm : plcN s (ms.getD j default) = q) : (way s q (ms.take j)).length < (way s q ms).length ∧ (way s q ms).getD (way s q (ms.take j)).length default = ms.getD j default := by
  have e : ms = ms.take j ++ ms.getD j default :: ms.drop (j + 1) := by
    have : ms.drop j = ms.getD j default :: ms.drop (j + 1) := by rw [List.drop_eq_getElem_cons hj]; simp [List.getD, hj]
    rw [← this, List.take_append_drop]
  have hw : way s q ms = way s q (ms.take j) ++ ms.getD j default :: way s q (ms.drop (j + 1)) := by
    conv => lhs; rw [e]
    simp only [way, List.filter_append, List.filter_cons]
    rw [if_pos (beq_iff_eq.2 hm)]
  rw [hw]
  refine ⟨by simp, ?_⟩
  simp [List.getD]
theorem way_step {s : Int} {q j : Nat} {ms : List MV} (hj : j < ms.length) : (way s q (ms.take (j + 1))).length = (way s q (ms.take j)).length + if plcN s (ms.getD j default) = q then 1 else 0 := by
  rw [take_snoc hj]
  obtain ⟨m, em⟩ : ∃ m, m = ms.getD j default := ⟨_, rfl⟩
  rw [← em]
  simp only [way, List.filter_append, List.length_append]
  congr 1
  by_cases h : plcN s m = q <;> simp [h]
theorem way_le (s : Int) (q : Nat) (l : List MV) : (way s q l).length ≤ l.length := List.length_filter_le _ _
theorem mss_rep (n : Nat) : mss (List.replicate n default) = List.replicate n [] := by unfold mss; rw [List.map_replicate]; rfl
/-- Nothing on its way may be. -/
theorem fault_empty {s : Int} {ls : List (Int × Int)} {p : Int} {n : Nat} (hc : cfgFault s ls p = 0) (hn : (n : Int) = s * s) : flyFault s ls p (List.replicate n default) = 0 := by
  have h : flyOK s ls p (List.replicate n default) = true := flyOK_true fun j hj => by
    have : (List.replicate n (default : FL)).getD j default = default := by
      by_cases hi : j < n <;> simp [List.getD, hi]
    rw [this]
    rfl
  simp [flyFault, hc, h, hn]
theorem place_of {s : Int} {ls : List (Int × Int)} {p : Int} {m : MV} {n : Nat} (h : msgFault s ls p m = 0) (s1 : 1 ≤ s) (s4 : s ≤ 4) (hn : (n : Int) = s * s) : ((plcN s m : Nat) : Int) = m.frm * s + m.dst ∧ plcN s m < n := by
  obtain ⟨sf, sd⟩ := may_sites h
  obtain ⟨u1, u2, u3⟩ := mul_bd s1 s4 sf.1 sf.2
  obtain ⟨q1, q2, q3⟩ := sq_bd s1 s4
  unfold plcN
  have h0 : 0 ≤ m.frm * s + m.dst := by omega
  have h1 : ((m.frm * s + m.dst).toNat : Int) = m.frm * s + m.dst := Int.toNat_of_nonneg h0
  exact ⟨h1, by omega⟩
/-- What was sent may be. -/
theorem fault_sent {s : Int} {ls : List (Int × Int)} {p : Int} {n : Nat} {ms : List MV} {gs : List FL} (hc : cfgFault s ls p = 0) (hn : (n : Int) = s * s) (hm : ∀ m ∈ ms, msgFault s ls p m = 0) (hl : ms.length ≤ 30) (hg : mss gs = sent s (List.replicate n []) ms) : flyFault s ls p gs = 0 ∧ gs.length = n ∧ total (mss gs) = ms.length ∧ ∀ q, (gs.getD q default).ms = way s q ms := by
  obtain ⟨s1, s4, _⟩ := cfg_zero hc
  have hp : ∀ m ∈ ms, plcN s m < n := fun m hmm => (place_of (hm m hmm) s1 s4 hn).2
  obtain ⟨h1, h2⟩ := sent_all hp hl
  have hlen : gs.length = n := by rw [← mss_len, hg, sent_len, List.length_replicate]
  have hq : ∀ q, (gs.getD q default).ms = way s q ms := fun q => by rw [← mss_at, hg, h1]
  refine ⟨?_, hlen, by rw [hg, h2], hq⟩
  have h : flyOK s ls p gs = true := flyOK_true fun j hj => by
    rw [hq]
    refine flOK_good (Nat.le_trans (way_le _ _ _) hl) fun k hk => ?_
    have hmem : (way s j ms).getD k default ∈ way s j ms := getD_mem hk
    obtain ⟨m, em⟩ : ∃ m, m = (way s j ms).getD k default := ⟨_, rfl⟩
    rw [← em] at hmem ⊢
    simp only [way, List.mem_filter, beq_iff_eq] at hmem
    refine ⟨hm _ hmem.1, ?_⟩
    rw [← (place_of (hm _ hmem.1) s1 s4 hn).1]
    exact congrArg _ hmem.2
  simp [flyFault, hc, h, hn, hlen]
end Go.Proofs.YtcdfaimpbbjioaaDoor.Nt
