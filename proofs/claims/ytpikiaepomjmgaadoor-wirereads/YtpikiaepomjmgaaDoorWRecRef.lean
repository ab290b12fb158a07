/- What the document's RecordOf has in memory, and what it reads, on plain data. -/
import Derived.Test.YtpikiaepomjmgaaDoorWMsgRef2
import Derived.Test.YtpikiaepomjmgaaDoorWDecodeR
import Derived.Test.YtpikiaepomjmgaaDoorWDecR0
import Derived.Test.YtpikiaepomjmgaaDoorWRSites
namespace Go.Proofs.YtpikiaepomjmgaaDoor
open Go.ChangeShapes Go.WideShapes Go.ChangeAt Go.RowKit
set_option linter.unusedVariables false

/-- All that RecordOf has in memory: the eye at R, the record at M, the answer at Q, the config at C. -/
structure ER (w V : World) (R M Q C L : Nat) (bs : List Int) (vs cf : List Value) (st : RS) : Prop where
  eye : EyeTo V R L bs st
  msg : BoxN V M 8 vs
  res : BoxN V Q 8 [.int .i64 0, .int .i64 0, .int .i64 0, .int .i64 0, .int .i64 0, .int .i64 0, .bool false, .slice none 0 0]
  cfg : BoxN V C 3 cf
  bel : Below w.heap.size w V
  ne : R ≠ M ∧ R ≠ Q ∧ R ≠ C ∧ M ≠ Q ∧ M ≠ C ∧ Q ≠ C
  le : w.heap.size ≤ R ∧ w.heap.size ≤ M ∧ w.heap.size ≤ Q ∧ w.heap.size ≤ C ∧ L ≤ w.heap.size
theorem ER.call {w V V' : World} {R M Q C L : Nat} {bs : List Int} {vs cf : List Value} {st st' : RS} (h : ER w V R M Q C L bs vs cf st) (hg : V.grownBy V' (some R)) (he : EyeTo V' R L bs st') : ER w V' R M Q C L bs vs cf st' :=
  ⟨he, h.msg.grown hg (by simpa using h.ne.1.symm), h.res.grown hg (by simpa using h.ne.2.1.symm), h.cfg.grown hg (by simpa using h.ne.2.2.1.symm), h.bel.grown hg h.bel.size (fun k hk => by simp at hk; have := h.le.1; omega), h.ne, h.le⟩
theorem ER.set {w V : World} {R M Q C L : Nat} {bs : List Int} {vs cf : List Value} {st : RS} (h : ER w V R M Q C L bs vs cf st) (k : Nat) (hk : k < 8) (v : Value) : ER w (V.setCell ⟨M, k, none⟩ v) R M Q C L bs (vs.set k v) cf st :=
  ⟨h.eye.grown (grown_set (grownR_refl _ _) : V.grownBy (V.setCell ⟨M, k, none⟩ v) (some M)) (fun j hj => by simp at hj; have := h.le; have := h.ne.1; omega), h.msg.set k hk v, h.res.far h.ne.2.2.2.1.symm, h.cfg.far h.ne.2.2.2.2.1.symm, h.bel.setCell (p := ⟨M, k, none⟩) h.le.2.1 v, h.ne, h.le⟩
theorem ER.row {w V V' : World} {R M Q C L : Nat} {bs : List Int} {vs cf : List Value} {st : RS} {row : Option Nat} (h : ER w V R M Q C L bs vs cf st) (hg : V.grownBy V' row) (hr : ∀ k, row = some k → w.heap.size ≤ k ∧ k ≠ R ∧ k ≠ M ∧ k ≠ Q ∧ k ≠ C) : ER w V' R M Q C L bs vs cf st :=
  ⟨h.eye.grown hg (fun k hk => by have := hr k hk; have := h.le; omega), h.msg.grown hg (fun e => (hr _ e.symm).2.2.1 rfl), h.res.grown hg (fun e => (hr _ e.symm).2.2.2.1 rfl), h.cfg.grown hg (fun e => (hr _ e.symm).2.2.2.2 rfl), h.bel.grown hg h.bel.size (fun k hk => (hr k hk).1), h.ne, h.le⟩

theorem rd_stays {ks : List Nat} {r : RS} (h : r.wrong ≠ 0) : (rdNums ks r).2 = r := by
  induction ks generalizing r with
  | nil => rfl
  | cons k ks ih =>
    have e : r.num k = (0, r) := num_wrong h
    show (rdNums ks (r.num k).2).2 = r
    rw [e]
    exact ih h
theorem kindR_zero {r : RS} (h : (r.kind 7).2.wrong ≠ 0) (h0 : r.wrong = 0) : (r.kind 7).1 = 0 := by
  unfold RS.kind at h ⊢
  split
  · rfl
  · rename_i hn
    rw [if_neg hn] at h
    by_cases hl : 1 ≤ r.rest.length
    · rw [num_ok h0 hl] at h; exact absurd rfl h
    · rw [num_short h0 (by omega)] at hn; exact absurd (Or.inl rfl) hn
theorem decR_nothing {r : RS} (h : (r.kind 7).2.wrong ≠ 0) (h0 : r.wrong = 0) : (decRecRS r).2 = (r.kind 7).2 := by
  have hz := kindR_zero h h0
  obtain ⟨K, eK⟩ : ∃ K, K = r.kind 7 := ⟨_, rfl⟩
  unfold decRecRS
  rw [← eK] at h hz ⊢
  obtain ⟨k, q⟩ := K
  simp only at h hz ⊢
  subst hz
  have h1 : ∀ k, q.num k = (0, q) := fun k => num_wrong h
  simp [h1, rHasOf, rHas, decParts, widL, RS.sites, rdNums]
/-- A record of plain parts. -/
def rMake (k n1 n2 key value ask : Int) (yes : Bool) (z : List Int) : RcV := ⟨k, n1, n2, key, value, ask, yes, none, z.length, 0, z⟩
theorem chR_1 {r r' : RS} {n1 n2 n3 n4 n5 : Int} (h1 : (r.num 1).1 = ((1 : Nat) : Int)) (h : Ch [1, 3, 1, 4, 3] (r.num 1).2 [n1, n2, n3, n4, n5] r') :
    r' = (decRecRS r).2 ∧ (r'.wrong = 0 → (decRecRS r).1 = rMake 1 n1 n2 n3 n4 n5 false []) := by
  have hc : Ch [1, 1, 3, 1, 4, 3] r [((1 : Nat) : Int), n1, n2, n3, n4, n5] r' := ⟨fun _ => h1.symm, h⟩
  obtain ⟨e1, e2⟩ := hc.rd
  rw [decR_1 r h1]
  generalize rdNums [1, 1, 3, 1, 4, 3] r = X at e1 e2 ⊢
  obtain ⟨X1, X2⟩ := X
  simp only [] at e1 e2 ⊢
  refine ⟨e1, fun hw => ?_⟩
  rw [← e2 hw]
  rfl
theorem chR_n {r r' : RS} {k : Nat} {n1 n2 : Int} (hk : k = 4 ∨ k = 5) (h1 : (r.num 1).1 = (k : Int)) (h : Ch [1, 3] (r.num 1).2 [n1, n2] r') :
    r' = (decRecRS r).2 ∧ (r'.wrong = 0 → (decRecRS r).1 = rMake k n1 n2 0 0 0 false []) := by
  have hc : Ch [1, 1, 3] r [(k : Int), n1, n2] r' := ⟨fun _ => h1.symm, h⟩
  obtain ⟨e1, e2⟩ := hc.rd
  rw [decR_n r k hk h1]
  generalize rdNums [1, 1, 3] r = X at e1 e2 ⊢
  obtain ⟨X1, X2⟩ := X
  simp only [] at e1 e2 ⊢
  refine ⟨e1, fun hw => ?_⟩
  rw [← e2 hw]
  rfl
theorem chR_y {r r' : RS} {k : Nat} {n1 n2 n : Int} (hk : k = 2 ∨ k = 6) (h1 : (r.num 1).1 = (k : Int)) (h : Ch [1, 3, 1] (r.num 1).2 [n1, n2, n] r') :
    (if 1 < n then r'.refuse 4 else r') = (decRecRS r).2 ∧ ((if 1 < n then r'.refuse 4 else r').wrong = 0 → (decRecRS r).1 = rMake k n1 n2 0 0 0 (n == 1) []) := by
  have hc : Ch [1, 1, 3, 1] r [(k : Int), n1, n2, n] r' := ⟨fun _ => h1.symm, h⟩
  obtain ⟨e1, e2⟩ := hc.rd
  have eb : (n == 1) = decide (n = 1) := by by_cases hh : n = 1 <;> simp [hh]
  rw [decR_y r k hk h1]
  generalize rdNums [1, 1, 3, 1] r = X at e1 e2 ⊢
  obtain ⟨X1, X2⟩ := X
  simp only [] at e1 e2 ⊢
  by_cases hw : r'.wrong = 0
  · rw [← e2 hw, ← e1]
    exact ⟨rfl, fun _ => by rw [eb]; rfl⟩
  · have er : (if 1 < n then r'.refuse 4 else r') = r' := by split; exact refuse_wrong hw; rfl
    rw [er]
    refine ⟨?_, fun h => absurd h hw⟩
    show r' = X2.truth _
    rw [← e1, truth_wrong hw]
theorem chR_3 {r S r' : RS} {n1 n2 n : Int} {zs : List Int} {k : Nat} (h1 : (r.num 1).1 = ((3 : Nat) : Int)) (h : Ch [1, 3, 1] (r.num 1).2 [n1, n2, n] S) (hz : Ch (List.replicate k 1) S zs r') (hk : (k : Int) ≤ n) (hend : r'.wrong ≠ 0 ∨ (k : Int) = n) :
    r' = (decRecRS r).2 ∧ (r'.wrong = 0 → (decRecRS r).1 = rMake 3 n1 n2 0 0 0 false zs) := by
  have hc : Ch [1, 1, 3, 1] r [((3 : Nat) : Int), n1, n2, n] S := ⟨fun _ => h1.symm, h⟩
  obtain ⟨e1, e2⟩ := hc.rd
  obtain ⟨e3, e4⟩ := hz.rd
  rw [decR_3 r h1]
  generalize rdNums [1, 1, 3, 1] r = X at e1 e2 ⊢
  obtain ⟨X1, X2⟩ := X
  simp only [] at e1 e2 ⊢
  by_cases hS : S.wrong = 0
  · have hn : X1 = [((3 : Nat) : Int), n1, n2, n] := (e2 hS).symm
    rw [hn, ← e1]
    have hN : RS.sites S n = rdNums (List.replicate n.toNat 1) S := rfl
    have hg : [((3 : Nat) : Int), n1, n2, n].getD 3 0 = n := rfl
    have hsp : List.replicate n.toNat 1 = List.replicate k 1 ++ List.replicate (n.toNat - k) 1 := by rw [List.replicate_append_replicate]; congr 1; omega
    simp only [hg, hN]
    rcases hend with hw | hw
    · have e5 : (rdNums (List.replicate n.toNat 1) S).2 = r' := by
        rw [hsp, rd_app]
        show (rdNums _ (rdNums (List.replicate k 1) S).2).2 = r'
        rw [← e3, rd_stays hw]
      exact ⟨e5.symm, fun h => absurd h hw⟩
    · have hkn : n.toNat = k := by omega
      rw [hkn]
      refine ⟨e3, fun h => ?_⟩
      rw [← e4 h]
      rfl
  · have hr' : r' = S := hz.stays hS
    subst hr'
    refine ⟨?_, fun h => absurd h hS⟩
    show r' = (rdNums _ X2).2
    rw [← e1, rd_stays hS]
theorem Ch.snoc {ks : List Nat} {r r' : RS} {ns : List Int} {k : Nat} {n : Int} (h : Ch ks r ns r') (hn : (r'.num k).2.wrong = 0 → n = (r'.num k).1) : Ch (ks ++ [k]) r (ns ++ [n]) (r'.num k).2 := by
  induction ks generalizing r ns with
  | nil =>
    cases ns with
    | nil =>
      have e : r' = r := h
      subst e
      exact ⟨hn, rfl⟩
    | cons _ _ => exact h.elim
  | cons j ks ih =>
    cases ns with
    | nil => exact h.elim
    | cons m ns => exact ⟨h.1, ih h.2⟩
theorem Ch.len {ks : List Nat} {r r' : RS} {ns : List Int} (h : Ch ks r ns r') : ns.length = ks.length := by
  induction ks generalizing r ns with
  | nil => cases ns with
    | nil => rfl
    | cons _ _ => exact h.elim
  | cons k ks ih => cases ns with
    | nil => exact h.elim
    | cons n ns => simp [ih h.2]
theorem isI_grown {w w' : World} {a : Option Addr} {len cap : Nat} {zs : List Int} {row : Option Nat} (h : IsInts w a len cap zs) (hg : w.grownBy w' row) (hne : ∀ b off, a = some ⟨b, off, none⟩ → some b ≠ row) : IsInts w' a len cap zs := by
  obtain ⟨h1, h2, h3, hbd, h4⟩ := h
  refine ⟨h1, h2, h3, hbd, fun hp => ?_⟩
  obtain ⟨b, off, e, hlt, hl⟩ := h4 hp
  refine ⟨b, off, e, Nat.lt_of_lt_of_le hlt hg.size, fun i hi => ?_⟩
  rw [World.cell?_of_block (a := ⟨b, off + i, none⟩) (hg.block b hlt (hne b off e))]
  exact hl i hi
def RcV.cs (m : RcV) : List Value := [.int .i64 m.kind, .int .i64 m.site, .int .i64 m.num, .int .i64 m.key, .int .i64 m.value, .int .i64 m.ask, .bool m.yes, .slice m.sa m.sl m.sc]
/-- Numbers that a slice of the call's own holds. -/
theorem isI_ownE {w : World} {B : Nat} {a : Option Addr} {n cap : Nat} {zs : List Int} (h : w.ownsRow B 3 1 (.slice a n cap) n (intsS zs)) (hz : ∀ z ∈ zs, 0 ≤ z ∧ z < 4294967296) :
    IsInts w a n cap zs ∧ (∀ b off, a = some ⟨b, off, none⟩ → B ≤ b ∧ b < w.heap.size) := by
  have hlen : zs.length = n := by have := h.1; simpa [intsS] using this
  have hbd : ∀ i, -9223372036854775808 ≤ zs.getD i 0 ∧ zs.getD i 0 ≤ 9223372036854775807 := by
    intro i
    by_cases hi : i < zs.length
    · have := hz zs[i] (List.getElem_mem hi)
      simp [List.getD, hi]
      omega
    · simp [List.getD, List.getElem?_eq_none (by omega : zs.length ≤ i)]
  rcases h.2 with ⟨hv, hn⟩ | ⟨g, cap', cur, hv, hg, hcur, h1, h2, h3, h4⟩
  · simp only [Value.slice.injEq] at hv
    obtain ⟨rfl, rfl, rfl⟩ := hv
    exact ⟨⟨hlen, Nat.le_refl _, Nat.zero_le _, hbd, fun hp => absurd hp (by omega)⟩, fun b off e => by simp at e⟩
  · simp only [Value.slice.injEq, true_and] at hv
    obtain ⟨rfl, rfl⟩ := hv
    refine ⟨⟨hlen, h1, h2, hbd, fun hp => ⟨g, 0, rfl, (h.lt g rfl).2, fun i hi => ?_⟩⟩, fun b off e => ?_⟩
    · have hx := h.cells (g := g) rfl i (.int .i64 (zs.getD i 0)) (by simp [intsS, List.getD, show i < zs.length by omega])
      rwa [adr_add] at hx
    · simp at e
      obtain ⟨rfl, _⟩ := e
      exact ⟨hg, (h.lt g rfl).2⟩
end Go.Proofs.YtpikiaepomjmgaaDoor
