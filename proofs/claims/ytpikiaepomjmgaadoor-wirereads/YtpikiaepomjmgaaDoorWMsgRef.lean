/- The contract of the document's MessageOf: what msgOf tells. -/
import Derived.Test.YtpikiaepomjmgaaDoorWEye3
import Derived.Test.YtpikiaepomjmgaaDoorWDecodeM
import Derived.Deep.CutBlock
import Derived.Deep.DeepCutAuto
namespace Go.Proofs.YtpikiaepomjmgaaDoor
open Go.ChangeShapes Go.WideShapes Go.ChangeAt Go.RowKit
set_option linter.unusedVariables false

/-- All that MessageOf has in memory: the eye at R, the message at M, the answer at Q, the config at C. -/
structure EM (w V : World) (R M Q C L : Nat) (bs : List Int) (vs cf : List Value) (st : RS) : Prop where
  eye : EyeTo V R L bs st
  msg : BoxN V M 12 vs
  res : BoxN V Q 12 [.int .i64 0, .int .i64 0, .int .i64 0, .int .i64 0, .int .i64 0, .int .i64 0, .int .i64 0, .int .i64 0, .int .i64 0, .int .i64 0, .bool false, .int .i64 0]
  cfg : BoxN V C 3 cf
  bel : Below w.heap.size w V
  ne : R ≠ M ∧ R ≠ Q ∧ R ≠ C ∧ M ≠ Q ∧ M ≠ C ∧ Q ≠ C
  le : w.heap.size ≤ R ∧ w.heap.size ≤ M ∧ w.heap.size ≤ Q ∧ w.heap.size ≤ C ∧ L ≤ w.heap.size
theorem EM.call {w V V' : World} {R M Q C L : Nat} {bs : List Int} {vs cf : List Value} {st st' : RS} (h : EM w V R M Q C L bs vs cf st) (hg : V.grownBy V' (some R)) (he : EyeTo V' R L bs st') : EM w V' R M Q C L bs vs cf st' :=
  ⟨he, h.msg.grown hg (by simpa using h.ne.1.symm), h.res.grown hg (by simpa using h.ne.2.1.symm), h.cfg.grown hg (by simpa using h.ne.2.2.1.symm), h.bel.grown hg h.bel.size (fun k hk => by simp at hk; have := h.le.1; omega), h.ne, h.le⟩
theorem EM.set {w V : World} {R M Q C L : Nat} {bs : List Int} {vs cf : List Value} {st : RS} (h : EM w V R M Q C L bs vs cf st) (k : Nat) (hk : k < 12) (v : Value) : EM w (V.setCell ⟨M, k, none⟩ v) R M Q C L bs (vs.set k v) cf st :=
  ⟨h.eye.grown (grown_set (grownR_refl _ _) : V.grownBy (V.setCell ⟨M, k, none⟩ v) (some M)) (fun j hj => by simp at hj; have := h.le; have := h.ne.1; omega), h.msg.set k hk v, h.res.far h.ne.2.2.2.1.symm, h.cfg.far h.ne.2.2.2.2.1.symm, h.bel.setCell (p := ⟨M, k, none⟩) h.le.2.1 v, h.ne, h.le⟩
theorem yes_same {r : RS} {n : Int} (h : (r.num 1).2.wrong = 0 → n = (r.num 1).1) : (if 1 < n then (r.num 1).2.refuse 4 else (r.num 1).2) = (r.part 5 1).2 := by
  rw [part_yes]
  simp only [RS.truth]
  by_cases hw : (r.num 1).2.wrong = 0
  · rw [h hw]
  · have hr : (r.num 1).2.refuse 4 = (r.num 1).2 := by simp [RS.refuse, hw]
    rw [hr]
    split <;> split <;> rfl


/-- Numbers that were read one behind the other: each is what was read, as long as nothing was wrong. -/
def Ch : List Nat → RS → List Int → RS → Prop
  | [], r, [], r' => r' = r
  | k :: ks, r, n :: ns, r' => ((r.num k).2.wrong = 0 → n = (r.num k).1) ∧ Ch ks (r.num k).2 ns r'
  | _, _, _, _ => False
theorem rd_down {ks : List Nat} {r : RS} (h : (rdNums ks r).2.wrong = 0) : r.wrong = 0 := by
  induction ks generalizing r with
  | nil => exact h
  | cons k ks ih => exact num_down (ih h)
theorem Ch.rd {ks : List Nat} {r r' : RS} {ns : List Int} (h : Ch ks r ns r') : r' = (rdNums ks r).2 ∧ (r'.wrong = 0 → ns = (rdNums ks r).1) := by
  induction ks generalizing r ns with
  | nil =>
    cases ns with
    | nil => exact ⟨h, fun _ => rfl⟩
    | cons _ _ => exact h.elim
  | cons k ks ih =>
    cases ns with
    | nil => exact h.elim
    | cons n ns =>
      obtain ⟨h1, h2⟩ := h
      obtain ⟨h3, h4⟩ := ih h2
      refine ⟨h3, fun hw => ?_⟩
      have hd : (r.num k).2.wrong = 0 := rd_down (by rw [← h3]; exact hw)
      show n :: ns = (r.num k).1 :: _
      rw [h1 hd, h4 hw]
theorem kind_zero {r : RS} (h : (r.kind 10).2.wrong ≠ 0) (h0 : r.wrong = 0) : (r.kind 10).1 = 0 := by
  unfold RS.kind at h ⊢
  split
  · rfl
  · rename_i hn
    rw [if_neg hn] at h
    by_cases hl : 1 ≤ r.rest.length
    · rw [num_ok h0 hl] at h; exact absurd rfl h
    · rw [num_short h0 (by omega)] at hn; exact absurd (Or.inl rfl) hn
theorem dec_nothing {r : RS} (h : (r.kind 10).2.wrong ≠ 0) (h0 : r.wrong = 0) : (decMsgRS r).2 = (r.kind 10).2 := by
  have hz := kind_zero h h0
  obtain ⟨K, eK⟩ : ∃ K, K = r.kind 10 := ⟨_, rfl⟩
  unfold decMsgRS
  rw [← eK] at h hz ⊢
  obtain ⟨k, q⟩ := K
  simp only at h hz ⊢
  subst hz
  have h1 : ∀ k, q.num k = (0, q) := fun k => num_wrong h
  simp [h1, mHasOf, mHas, decParts, widL]
theorem Ch.stays {ks : List Nat} {r r' : RS} {ns : List Int} (h : Ch ks r ns r') (hw : r.wrong ≠ 0) : r' = r := by
  induction ks generalizing r ns with
  | nil => cases ns with
    | nil => exact h
    | cons _ _ => exact h.elim
  | cons k ks ih => cases ns with
    | nil => exact h.elim
    | cons n ns =>
      have e : r.num k = (0, r) := num_wrong hw
      have h2 := h.2
      rw [e] at h2
      exact ih h2 hw
/-- What was read of a kind without a truth is the message. -/
theorem ch_msg {r r' : RS} {k : Nat} {ns : List Int} (hk : 1 ≤ k ∧ k ≤ 9) (h1 : (r.num 1).1 = k) (h0 : (r.num 1).2.wrong = 0) (h : Ch ((mWid k).drop 1) (r.num 1).2 ns r') (hT : k ≠ 4 ∧ k ≠ 7) :
    r' = (decMsgRS r).2 ∧ (r'.wrong = 0 → (decMsgRS r).1 = mMake k ((k : Int) :: ns)) := by
  have hks : mWid k = 1 :: (mWid k).drop 1 := by
    rcases (by omega : k = 1 ∨ k = 2 ∨ k = 3 ∨ k = 4 ∨ k = 5 ∨ k = 6 ∨ k = 7 ∨ k = 8 ∨ k = 9) with rfl | rfl | rfl | rfl | rfl | rfl | rfl | rfl | rfl <;> rfl
  have hc : Ch (mWid k) r ((k : Int) :: ns) r' := by rw [hks]; exact ⟨fun _ => h1.symm, h⟩
  obtain ⟨e1, e2⟩ := hc.rd
  have ht : ∀ l, mTruth k l = 0 := fun l => by
    rcases (by omega : k = 1 ∨ k = 2 ∨ k = 3 ∨ k = 5 ∨ k = 6 ∨ k = 8 ∨ k = 9) with rfl | rfl | rfl | rfl | rfl | rfl | rfl <;> rfl
  rw [dec_kind r k hk h1]
  refine ⟨?_, fun hw => ?_⟩
  · show r' = (rdNums (mWid k) r).2.truth _
    rw [ht, e1]; rfl
  · show mMake k _ = _
    rw [e2 hw]
/-- The same of a kind with a truth behind all. -/
theorem ch_yes {r r' : RS} {k : Nat} {ns : List Int} {n : Int} (hk : k = 4 ∨ k = 7) (h1 : (r.num 1).1 = k) (h0 : (r.num 1).2.wrong = 0) (h : Ch ((mWid k).drop 1) (r.num 1).2 (ns ++ [n]) r') (hl : ns.length = if k = 4 then 4 else 7) :
    (if 1 < n then r'.refuse 4 else r') = (decMsgRS r).2 ∧ ((if 1 < n then r'.refuse 4 else r').wrong = 0 → (decMsgRS r).1 = mMake k ((k : Int) :: (ns ++ [n]))) := by
  have hks : mWid k = 1 :: (mWid k).drop 1 := by rcases hk with rfl | rfl <;> rfl
  have hc : Ch (mWid k) r ((k : Int) :: (ns ++ [n])) r' := by rw [hks]; exact ⟨fun _ => h1.symm, h⟩
  obtain ⟨e1, e2⟩ := hc.rd
  have ht : mTruth k ((k : Int) :: (ns ++ [n])) = n := by
    rcases hk with rfl | rfl
    · match ns, hl with
      | [x1, x2, x3, x4], _ => rfl
    · match ns, hl with
      | [x1, x2, x3, x4, x5, x6, x7], _ => rfl
  rw [dec_kind r k (by omega) h1]
  by_cases hw : r'.wrong = 0
  · rw [← e2 hw, ht, ← e1]
    exact ⟨rfl, fun _ => rfl⟩
  · have er : (if 1 < n then r'.refuse 4 else r') = r' := by split; exact refuse_wrong hw; rfl
    rw [er]
    refine ⟨?_, fun h => absurd h hw⟩
    show r' = (rdNums (mWid k) r).2.truth _
    rw [← e1, truth_wrong hw]
def MV.cs (m : MV) : List Value := [.int .i64 m.kind, .int .i64 m.frm, .int .i64 m.dst, .int .i64 m.site, .int .i64 m.num, .int .i64 m.label, .int .i64 m.key, .int .i64 m.value, .int .i64 m.version, .int .i64 m.ask, .bool m.yes, .int .i64 m.code]

end Go.Proofs.YtpikiaepomjmgaaDoor
