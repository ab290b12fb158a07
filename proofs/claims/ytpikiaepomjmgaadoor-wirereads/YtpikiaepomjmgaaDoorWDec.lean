/- Messages and records read off bytes, on plain data: what was written is read as it was; what is read is written as it was; what is torn is short. -/
import Derived.Test.YtpikiaepomjmgaaDoorWNum
namespace Go.Proofs.YtpikiaepomjmgaaDoor
open Go.ChangeShapes Go.WideShapes Go.ChangeAt Go.RowKit
set_option linter.unusedVariables false

/-! ### Numbers one behind the other -/
def rdNums : List Nat → RS → List Int × RS
  | [], r => ([], r)
  | k :: ks, r => ((r.num k).1 :: (rdNums ks (r.num k).2).1, (rdNums ks (r.num k).2).2)
def wrNums : List Nat → List Int → List Int
  | k :: ks, n :: ns => be n k ++ wrNums ks ns
  | _, _ => []
def fits : List Nat → List Int → Bool
  | k :: ks, n :: ns => decide (0 ≤ n ∧ n < 256 ^ k) && fits ks ns
  | [], [] => true
  | _, _ => false
def widthOf (ks : List Nat) : Nat := ks.foldr (· + ·) 0

theorem rd_wrong : ∀ (ks : List Nat) (r : RS), r.wrong ≠ 0 → rdNums ks r = (ks.map fun _ => 0, r) := by
  intro ks
  induction ks with
  | nil => intro r _; rfl
  | cons k ks ih => intro r h; simp [rdNums, num_wrong h, ih r h]
theorem rd_wr : ∀ (ks : List Nat) (ns t : List Int), fits ks ns = true → rdNums ks ⟨wrNums ks ns ++ t, 0⟩ = (ns, ⟨t, 0⟩) := by
  intro ks
  induction ks with
  | nil => intro ns t h; cases ns <;> simp_all [fits, rdNums, wrNums]
  | cons k ks ih =>
    intro ns t h
    cases ns with
    | nil => simp [fits] at h
    | cons n ns =>
      simp only [fits, Bool.and_eq_true, decide_eq_true_eq] at h
      simp only [rdNums, wrNums, List.append_assoc]
      rw [num_app h.1.1 h.1.2, ih ns t h.2]
theorem wr_len : ∀ (ks : List Nat) (ns : List Int), ns.length = ks.length → (wrNums ks ns).length = widthOf ks := by
  intro ks
  induction ks with
  | nil => intro ns h; simp [wrNums, widthOf]
  | cons k ks ih =>
    intro ns h
    cases ns with
    | nil => simp at h
    | cons n ns =>
      have := ih ns (by simpa using h)
      simp only [wrNums, List.length_append, be_len, widthOf, List.foldr_cons] at this ⊢
      omega
theorem rd_len : ∀ (ks : List Nat) (r : RS), (rdNums ks r).1.length = ks.length := by
  intro ks
  induction ks with
  | nil => intro r; rfl
  | cons k ks ih => intro r; simp [rdNums, ih]
/-- Too few bytes: short. -/
theorem rd_short : ∀ (ks : List Nat) (r : RS), r.wrong = 0 → r.rest.length < widthOf ks → (rdNums ks r).2.wrong = 5 := by
  intro ks
  induction ks with
  | nil => intro r _ h; simp [widthOf] at h
  | cons k ks ih =>
    intro r h0 h
    by_cases hk : k ≤ r.rest.length
    · simp only [rdNums, num_ok h0 hk]
      refine ih ⟨r.rest.drop k, 0⟩ rfl ?_
      simp only [widthOf, List.foldr_cons] at h
      simp only [List.length_drop, widthOf]
      omega
    · simp only [rdNums, num_short h0 (by omega : r.rest.length < k)]
      rw [rd_wrong _ _ (by simp)]
/-- Enough bytes: what is read is what stood there. -/
theorem rd_ok : ∀ (ks : List Nat) (r : RS), r.wrong = 0 → widthOf ks ≤ r.rest.length → Byt r.rest →
    (rdNums ks r).2 = ⟨r.rest.drop (widthOf ks), 0⟩ ∧ fits ks (rdNums ks r).1 = true ∧ wrNums ks (rdNums ks r).1 = r.rest.take (widthOf ks) := by
  intro ks
  induction ks with
  | nil => intro r h0 h hb; simp [rdNums, widthOf, fits, wrNums, ← h0]
  | cons k ks ih =>
    intro r h0 h hb
    simp only [widthOf, List.foldr_cons] at h ⊢
    have hk : k ≤ r.rest.length := by omega
    obtain ⟨h1, h2, h3⟩ := ih ⟨r.rest.drop k, 0⟩ rfl (by simp only [widthOf, List.length_drop]; omega) (fun b hb' => hb b (List.mem_of_mem_drop hb'))
    have hlen : (r.rest.take k).length = k := by simp; omega
    have hbt : Byt (r.rest.take k) := fun b hb' => hb b (List.mem_of_mem_take hb')
    simp only [rdNums, num_ok h0 hk, fits, wrNums, Bool.and_eq_true, decide_eq_true_eq]
    refine ⟨?_, ⟨bval_bd k _ hlen hbt, h2⟩, ?_⟩
    · rw [h1]
      simp only [List.drop_drop, widthOf]
    · rw [h3, be_bval k _ hlen hbt]
      simp only [widthOf]
      rw [← List.take_append_drop k (List.take (k + List.foldr (· + ·) 0 ks) r.rest), List.take_take, List.drop_take, Nat.min_eq_left (by omega)]
      congr 2
      omega
theorem rd_app (ks ls : List Nat) (r : RS) : rdNums (ks ++ ls) r = ((rdNums ks r).1 ++ (rdNums ls (rdNums ks r).2).1, (rdNums ls (rdNums ks r).2).2) := by
  induction ks generalizing r with
  | nil => rfl
  | cons k ks ih => simp [rdNums, ih]
theorem num_byt (r : RS) (k : Nat) (h : Byt r.rest) : Byt (r.num k).2.rest := by
  by_cases h0 : r.wrong = 0
  · by_cases hk : k ≤ r.rest.length
    · rw [num_ok h0 hk]; exact fun b hb => h b (List.mem_of_mem_drop hb)
    · rw [num_short h0 (by omega)]; exact h
  · rw [num_wrong h0]; exact h
theorem rd_byt : ∀ (ks : List Nat) (r : RS), Byt r.rest → Byt (rdNums ks r).2.rest := by
  intro ks
  induction ks with
  | nil => intro r h; exact h
  | cons k ks ih => intro r h; exact ih _ (num_byt r k h)

/-! ### Kinds, transactions, parts -/
def RS.kind (r : RS) (top : Int) : Int × RS := if (r.num 1).1 = 0 ∨ top ≤ (r.num 1).1 then (0, (r.num 1).2.refuse 3) else r.num 1
def RS.part (r : RS) (i k : Nat) : Int × RS := if i = 5 ∧ 1 < (r.num k).1 then ((r.num k).1, (r.num k).2.refuse 4) else r.num k
def decParts : Nat → List Bool → List Nat → RS → List Int × RS
  | i, h :: hs, k :: ks, r =>
    if h then ((r.part i k).1 :: (decParts (i + 1) hs ks (r.part i k).2).1, (decParts (i + 1) hs ks (r.part i k).2).2)
    else (0 :: (decParts (i + 1) hs ks r).1, (decParts (i + 1) hs ks r).2)
  | _, _, _, r => ([], r)
def RS.fin (r : RS) : RS := if 0 < r.rest.length then r.refuse 4 else r
end Go.Proofs.YtpikiaepomjmgaaDoor
