/- Texts of this claim, one behind the other. -/
import Derived.Test.YtcmjcopopkafnaaDoorM28HearKind
import Derived.Test.YtcmjcopopkafnaaDoorM26HearKind
import Derived.Test.YtcmjcopopkafnaaDoorM27HearKind
/- What End leaves: of a transaction that wrote one key; of any. -/
namespace Go.Proofs.YtcmjcopopkafnaaDoor.St
open Go.ChangeShapes Go.WideShapes Go.ChangeAt Go.RowKit
set_option linter.unusedVariables false

theorem wf_of {n : Int} (h1 : -9223372036854775808 ≤ n) (h2 : n ≤ 9223372036854775807) : (Lit.int .i64 n).wf = true := by
  simp [Lit.wf, IntKind.min, IntKind.max, IntKind.signed, IntKind.bits]
  omega
theorem txWf_of {t : Int × Int} (h : txOK t = true) : TxWf t := by
  simp only [txOK, Bool.and_eq_true] at h
  have h1 := inR_of h.1
  have h2 := inR_of h.2
  exact ⟨wf_of (by omega) (by omega), wf_of (by omega) (by omega)⟩
theorem OKP.wf {s : SV} (h : OKP s.data) : ∀ t ∈ s.over, TxWf t := fun t ht => txWf_of (h.ovt t ht)
theorem wOf_one {p : PS} {x : Int × Int} {k va ask : Int} (hF : Fresh p x) : (p.locks ++ [(⟨x, k, true, va, ask⟩ : LkV)]).filter (wOf x) = [⟨x, k, true, va, ask⟩] := by
  rw [List.filter_append]
  have : p.locks.filter (wOf x) = [] := List.filter_eq_nil_iff.2 fun o ho => by simp [wOf, hF.nl o ho]
  rw [this]
  simp [wOf]
theorem end_err {s : SV} {x : Int × Int} {yes : Bool} (ho : OKP s.data) (hx : txOK x = true) : endErr s x yes = 0 := by
  unfold endErr
  rw [if_pos ho.ok, if_pos hx]
theorem end_data {s : SV} {x : Int × Int} {yes : Bool} (ho : OKP s.data) (hx : txOK x = true) : endData s x yes = ⟨if yes then putAll s.items (s.locks.filter (wOf x)) else s.items, keep (ofT x) s.locks, keep (dbT x) s.doubts, if x ∈ s.over then s.over else s.over ++ [x]⟩ := by
  unfold endData
  rw [if_pos (end_err ho hx)]
theorem end_plus {p : PS} {u : SV} {x : Int × Int} {k va ask : Int} {yes : Bool} (hF : Fresh p x) (hP : Plus p u.data ⟨x, k, true, va, ask⟩) (ho : OKP u.data) (hver : ∀ y ∈ p.items, y.version ≤ 1048000) :
    endErr u x yes = 0 ∧ OKP (endData u x yes) ∧ (endData u x yes).items = (if yes then putI k va p.items else p.items) ∧ (endData u x yes).locks = p.locks ∧ (endData u x yes).over = p.over ++ [x] := by
  have hE := end_err (yes := yes) ho hF.okx
  have el : u.locks = p.locks ++ [⟨x, k, true, va, ask⟩] := hP.locks
  have ei : u.items = p.items := hP.items
  have eo : u.over = p.over := hP.over
  refine ⟨hE, (end_ok hE (v := 1048000) (by omega) (by omega) (by rw [ei]; exact hver)).1, ?_, ?_, ?_⟩
  all_goals rw [end_data ho hF.okx]
  · show (if yes then putAll u.items (u.locks.filter (wOf x)) else u.items) = _
    rw [ei, el, wOf_one hF]
    rfl
  · show keep (ofT x) u.locks = p.locks
    rw [el]
    unfold keep
    rw [List.filter_append, List.filter_eq_self.2 (fun o h => by simp [ofT, hF.nl o h])]
    simp [ofT]
  · show (if x ∈ u.over then u.over else u.over ++ [x]) = p.over ++ [x]
    rw [eo, if_neg hF.nov]
/-- Who is over is over. -/
theorem end_again {s : SV} {x : Int × Int} {yes : Bool} (ho : OKP s.data) (hx : txOK x = true) (hver : ∀ y ∈ s.items, y.version ≤ 1048000) {u : SV} (hd : u.data = endData s x yes) (no : Bool) :
    OKP u.data ∧ x ∈ u.over ∧ (∀ k ∈ u.locks, k.t ≠ x) ∧ endErr u x no = 0 ∧ endData u x no = u.data ∧ u.locks = keep (ofT x) s.locks ∧ (u.over = s.over ∨ u.over = s.over ++ [x]) := by
  have hE := end_err (yes := yes) ho hx
  have hok : OKP u.data := by rw [hd]; exact (end_ok hE (v := 1048000) (by omega) (by omega) hver).1
  rw [end_data ho hx] at hd
  have el : u.locks = keep (ofT x) s.locks := congrArg PS.locks hd
  have ed : u.doubts = keep (dbT x) s.doubts := congrArg PS.doubts hd
  have eo : u.over = if x ∈ s.over then s.over else s.over ++ [x] := congrArg PS.over hd
  have hin : x ∈ u.over := by
    rw [eo]
    split
    · assumption
    · simp
  have hno : ∀ k ∈ u.locks, k.t ≠ x := by
    rw [el]
    intro k hk
    have := (mem_keep.1 hk).2
    simpa [ofT] using this
  refine ⟨hok, hin, hno, end_err hok hx, ?_, el, ?_⟩
  · rw [end_data hok hx]
    have h1 : u.locks.filter (wOf x) = [] := List.filter_eq_nil_iff.2 fun o h => by simp [wOf, hno o h]
    have h2 : keep (ofT x) u.locks = u.locks := List.filter_eq_self.2 fun o h => by simp [ofT, hno o h]
    have h3 : keep (dbT x) u.doubts = u.doubts := by
      rw [ed]
      unfold keep
      rw [List.filter_filter]
      congr 1
      funext d
      cases dbT x d <;> rfl
    rw [h1, h2, h3, if_pos hin]
    show (⟨if no then u.items else u.items, _, _, _⟩ : PS) = _
    rw [ite_self]
    rfl
  · rw [eo]
    split
    · exact .inl rfl
    · exact .inr rfl
end Go.Proofs.YtcmjcopopkafnaaDoor.St
/- What hearing makes of two stores at a config of two labels, on plain data. -/
namespace Go.Proofs.YtcmjcopopkafnaaDoor.Pt
open Go.ChangeShapes Go.WideShapes Go.ChangeAt Go.RowKit
open Go.Proofs.YtcmjcopopkafnaaDoor.St (SV PS IsStore IsRow storeOK TxWf BoxN boxn_new OwnStore flat isOne own_isRow isRow_nil IsRaws Gd OKP cntErr cntIs endErr endData txOK wOf ofT readVal readVer readErr readData peekVal peekVer peekErr writeErr writeData stillIs refErr)
set_option linter.unusedVariables false

theorem site_two {l : Int} {r q : SV} (h1 : storeOK r = true) (h2 : storeOK q = true) (h3 : 0 ≤ l) (h4 : l ≤ 1) : siteErr 1 LS2 3 l 0 2 [r, q] = 0 := by
  unfold siteErr
  rw [if_pos (cfg_two (by omega) (by omega) (by omega) (by omega)), if_pos (by simp [plc, LS2]; omega), if_pos (inR_true (by omega) (by omega)), if_pos (by decide), if_pos (by simp [h1, h2])]
theorem cfg2 : cfgFault 1 LS2 3 = 0 := cfg_two (by omega) (by omega) (by omega) (by omega)
theorem inT {n lo hi : Int} (h1 : lo ≤ n) (h2 : n ≤ hi) : inR n lo hi = true := inR_true h1 h2
theorem cnt_end2 {s q : SV} {t : Int × Int} {yes : Bool} (he : endErr s t yes = 0) (hd : q.data = endData s t yes) : cntIs q t = 0 := by
  unfold cntIs
  split
  · have hl : q.locks = (endData s t yes).locks := congrArg PS.locks hd
    have : q.locks.filter (wOf t) = [] := by
      rw [hl]
      unfold endData
      rw [if_pos he]
      rw [List.filter_eq_nil_iff]
      intro k hk
      have := (St.mem_keep.1 hk).2
      simp only [ofT, decide_eq_false_iff_not] at this
      simp [wOf, this]
    rw [this]; rfl
  · rfl
theorem cnt_nn (s : SV) (t : Int × Int) : 0 ≤ cntIs s t ∧ cntIs s t ≤ s.locks.length := by
  unfold cntIs
  split
  · exact ⟨by omega, by have := List.length_filter_le (wOf t) s.locks; omega⟩
  · exact ⟨by omega, by omega⟩
/-- A word that is decided is heard. -/
theorem decide_two {r : SV} {n : Int} {yes : Bool} (h1 : storeOK r = true) (n1 : 1 ≤ n) (n2 : n ≤ 1048576) : hearErr 1 LS2 3 0 0 2 [r, SV.nil] ⟨4, 0, 0, 0, n, 0, 0, 0, 0, 0, yes, 0⟩ = 0 := by
  have hm : msgFault 1 LS2 3 ⟨4, 0, 0, 0, n, 0, 0, 0, 0, 0, yes, 0⟩ = 0 := by
    refine mf_ok cfg2 rfl ?_ ?_
    · unfold msgRange txnOK
      rw [inT n1 n2]
      cases yes <;> rfl
    · cases yes <;> rfl
  unfold hearErr
  rw [if_pos (site_two h1 nil_ok (by omega) (by omega)), if_pos hm, if_pos rfl, if_neg (by simp), if_pos (by simp)]
theorem ov2 {r q : SV} (h1 : r.ol * 16 ≤ 140737488351232) (h2 : q.ol * 16 ≤ 140737488351232) : ∀ i, i < 2 → (([r, q] : List SV).getD i default).ol * 16 ≤ 140737488351232 := fun i hi => by
  rcases (by omega : i = 0 ∨ i = 1) with rfl | rfl
  · exact h1
  · exact h2
theorem ol_of {w : World} {s : SV} (h : IsStore w s) {k : Nat} (hk : s.over.length ≤ k) (hk2 : k * 16 ≤ 140737488351232) : s.ol * 16 ≤ 140737488351232 := by
  have : s.over.length = s.ol := h.over.1
  have : s.ol ≤ k := by omega
  exact Nat.le_trans (Nat.mul_le_mul_right _ this) hk2
end Go.Proofs.YtcmjcopopkafnaaDoor.Pt
/- What a site answers to a message that may be, on plain data. -/
namespace Go.Proofs.YtcmjcopopkafnaaDoor.Pt
open Go.ChangeShapes Go.WideShapes Go.ChangeAt Go.RowKit
open Go.Proofs.YtcmjcopopkafnaaDoor.St (SV PS IsStore IsRow storeOK TxWf BoxN boxn_new OwnStore flat isOne own_isRow isRow_nil IsRaws Gd OKP cntErr cntIs endErr endData txOK wOf ofT readVal readVer readErr readData peekVal peekVer peekErr writeErr writeData stillIs refErr)
set_option linter.unusedVariables false

theorem itemAt_val {k : Int} : ∀ (l : List St.ItV) (lo : Int), St.itemsOK lo l = true → 0 ≤ (St.itemAt l k).value ∧ (St.itemAt l k).value ≤ 1073741824
  | [], lo, _ => by rw [St.itemAt_nil]; exact ⟨by simp, by simp⟩
  | x :: r, lo, h => by
    simp only [St.itemsOK, Bool.and_eq_true] at h
    rw [St.itemAt_cons]
    split
    · exact St.inR_of h.1.1.2
    · exact itemAt_val r _ h.2
theorem itemAt_nn2 {k : Int} : ∀ {l : List St.ItV}, (∀ x ∈ l, 0 ≤ x.version) → 0 ≤ (St.itemAt l k).version
  | [], _ => Int.le_refl _
  | x :: r, h => by
    rw [St.itemAt_cons]
    split
    · exact h x (by simp)
    · exact itemAt_nn2 fun y hy => h y (by simp [hy])
theorem readVal_bd {s : SV} (ho : OKP s.data) (t : Int × Int) (key : Int) : 0 ≤ readVal s t key ∧ readVal s t key ≤ 1073741824 := by
  unfold St.readVal
  split
  · split
    · rename_i hc
      obtain ⟨i, e, hi, _, _⟩ := St.mem_of_idx (l := s.locks) (p := St.byT t key) (by omega)
      rw [e]
      have hmem : s.locks.getD ((i : Int).toNat) default ∈ s.locks := by simp [List.getD, hi]
      have := ho.lk _ hmem
      simp only [St.lockOK, Bool.and_eq_true] at this
      exact St.inR_of this.1.1.2
    · exact itemAt_val s.items 0 ho.items
  · exact ⟨by omega, by omega⟩
theorem readVer_bd {s : SV} {v : Int} (h : Gd s.data v) (hv : 0 ≤ v) (hv2 : v ≤ 1048576) (t : Int × Int) (key : Int) : 0 ≤ readVer s t key ∧ readVer s t key ≤ 1048576 := by
  unfold St.readVer
  split
  · exact ⟨itemAt_nn2 fun y hy => by have := St.itemsOK_ge s.items 0 h.ok.items y hy; omega, Int.le_trans (St.itemAt_bd hv (fun y hy => h.ver y hy)) hv2⟩
  · exact ⟨by omega, by omega⟩
/-- What a message that may be has. -/
structure MayBe (S : Int) (m : MV) : Prop where
  kd : 1 ≤ m.kind ∧ m.kind ≤ 9
  fr : inR m.frm 0 (S - 1) = true
  ds : inR m.dst 0 (S - 1) = true
  tx : txnOK S m.site m.num = true
  lb : 0 ≤ m.label ∧ m.label ≤ 1
  ky : 0 ≤ m.key ∧ m.key ≤ 7
  va : 0 ≤ m.value ∧ m.value ≤ 1073741824
  ve : 0 ≤ m.version ∧ m.version ≤ 1048576
  ak : 0 ≤ m.ask ∧ m.ask ≤ 1048576
theorem mayBe {S : Int} {m : MV} (h : msgFault S LS2 3 m = 0) : MayBe S m := by
  have hl := msg_lab h
  unfold msgFault at h
  split at h
  · rename_i h1; exact absurd h h1
  · split at h
    · simp at h
    · rename_i hk
      split at h
      · simp at h
      · rename_i hr
        have hk2 : inR m.kind 1 9 = true := by simpa using hk
        have hr2 : msgRange S LS2.length m = true := by simpa using hr
        unfold msgRange partsOK at hr2
        simp only [Bool.and_eq_true] at hr2
        obtain ⟨⟨⟨a1, a2⟩, a3⟩, ⟨a4, _⟩, _⟩ := hr2
        simp only [MV.parts, topL, inTops, Bool.and_eq_true] at a4
        obtain ⟨_, b2, b3, b4, b5, _⟩ := a4
        exact ⟨inR_of hk2, a1, a2, a3, ⟨hl.1, by have := hl.2; simp [LS2] at this; omega⟩, inR_of b2, inR_of b3, inR_of b4, inR_of b5⟩
theorem site_gen {S k : Int} {r : SV} (h1 : storeOK r = true) (s1 : 1 ≤ S) (s2 : S ≤ 4) (k1 : 0 ≤ k) (k2 : k < S) : siteErr S LS2 3 0 k 2 [r, SV.nil] = 0 := by
  unfold siteErr
  rw [if_pos (cfg_two s1 s2 (by omega) (by omega)), if_pos (by decide), if_pos (inR_true k1 (by omega)), if_pos (by decide), if_pos (by simp [h1, nil_ok])]
theorem told_cd {e : Int} (h : toldE e = true) : isCd e = true ∧ 0 ≤ e ∧ e ≤ 11 := by
  unfold toldE at h
  refine ⟨h, ?_⟩
  simp at h
  omega
/-- What goes back may be. -/
theorem back_may {S k : Int} {m : MV} (hc : cfgFault S LS2 3 = 0) (hm : MayBe S m) (kind key value version ask code : Int) (yes : Bool) (h1 : 1 ≤ kind) (h2 : kind ≤ 9) (hky : 0 ≤ key ∧ key ≤ 7) (hva : 0 ≤ value ∧ value ≤ 1073741824) (hve : 0 ≤ version ∧ version ≤ 1048576) (hak : 0 ≤ ask ∧ ask ≤ 1048576) (hcd : isCd code = true ∧ 0 ≤ code ∧ code ≤ 11) (hf : msgForm ⟨kind, m.dst, m.frm, m.site, m.num, 0, key, value, version, ask, yes, code⟩ = true) :
    msgFault S LS2 3 ⟨kind, m.dst, m.frm, m.site, m.num, 0, key, value, version, ask, yes, code⟩ = 0 := by
  refine mf_ok hc (inT h1 h2) ?_ hf
  unfold msgRange partsOK
  have e1 : inTops topL (MV.parts ⟨kind, m.dst, m.frm, m.site, m.num, 0, key, value, version, ask, yes, code⟩) = true := by
    simp only [MV.parts, topL, inTops, inT hky.1 hky.2, inT hva.1 hva.2, inT hve.1 hve.2, inT hak.1 hak.2, inT hcd.2.1 hcd.2.2]
    cases yes <;> rfl
  simp only [MV.parts] at e1
  simp only [hm.fr, hm.ds, hm.tx, e1, MV.parts, List.getD_cons_zero, List.getD_cons_succ, hcd.1]
  rfl
def oneBack (S k : Int) (m : MV) (l : List MV) : Prop := l = [] ∨ ∃ x : MV, l = [x] ∧ x.frm = k ∧ x.dst = m.frm ∧ x.site = m.site ∧ x.num = m.num ∧ msgFault S LS2 3 x = 0
theorem hear_kind {S k : Int} {r : SV} {m : MV} (s1 : 1 ≤ S) (s2 : S ≤ 3) (k1 : 0 ≤ k) (k2 : k < S) (hG : Gd r.data 961) (hm0 : msgFault S LS2 3 m = 0) :
    (m.dst ≠ k → hearErr S LS2 3 0 k 2 [r, SV.nil] m = 2) ∧
    (m.dst = k → 4 < m.kind → hearErr S LS2 3 0 k 2 [r, SV.nil] m = 3) ∧
    (m.dst = k → m.kind = 1 ∨ m.kind = 3 → m.label = 1 → hearErr S LS2 3 0 k 2 [r, SV.nil] m = 10) ∧
    (m.dst = k → m.kind ≤ 4 → (m.kind = 1 ∨ m.kind = 3 → m.label ≠ 1) → hearErr S LS2 3 0 k 2 [r, SV.nil] m = 0 ∧ OKP (hearD S LS2 3 0 k 2 [r, SV.nil] [] 6000 m).st ∧ oneBack S k m (hearD S LS2 3 0 k 2 [r, SV.nil] [] 6000 m).ms) := by
  have hs := site_gen (k := k) hG.ok.ok s1 (by omega) k1 k2
  have hm := mayBe hm0
  have hc := cfg_two (p := 3) s1 (by omega : S ≤ 4) (by omega) (by omega)
  have hlb := hm.lb
  refine ⟨fun h => ?_, fun h h4 => ?_, fun h h13 h1 => ?_, fun h h4 hn => ?_⟩
  · unfold hearErr; rw [if_pos hs, if_pos hm0, if_neg h]
  · unfold hearErr; rw [if_pos hs, if_pos hm0, if_pos h, if_neg (by omega), if_neg (by omega)]
  · unfold hearErr; rw [if_pos hs, if_pos hm0, if_pos h, if_pos h13, h1]; rfl
  · have hkd := hm.kd
    have hE : hearErr S LS2 3 0 k 2 [r, SV.nil] m = 0 := by
      unfold hearErr
      rw [if_pos hs, if_pos hm0, if_pos h]
      by_cases h13 : m.kind = 1 ∨ m.kind = 3
      · have : m.label = 0 := by have := hn h13; omega
        rw [if_pos h13, this]; rfl
      · rw [if_neg h13, if_pos (by omega)]
    refine ⟨hE, ?_⟩
    have hD : hearD S LS2 3 0 k 2 [r, SV.nil] [] 6000 m = hearV 0 [r, SV.nil] 6000 m ⟨r.data, [], [], []⟩ r (([r, SV.nil] : List SV).getD m.label.toNat default) := by
      unfold hearD; rw [if_pos hE]; rfl
    rw [hD]
    unfold hearV
    rcases (by omega : m.kind = 1 ∨ m.kind = 2 ∨ m.kind = 3 ∨ m.kind = 4) with e | e | e | e
    · have hl0 : m.label = 0 := by have := hn (Or.inl e); omega
      rw [if_pos e]
      unfold readD
      refine ⟨?_, ?_⟩
      · dsimp only
        split
        · rename_i hc2; exact St.read_ok hc2.2
        · exact hG.ok
      · dsimp only
        split
        · rename_i ht
          right
          refine ⟨_, rfl, h, rfl, rfl, rfl, ?_⟩
          have ht' : toldE (readErr r (mtx m) m.key) = true := by simpa [gotM, hl0] using ht
          have e2 : gotM 0 r (([r, SV.nil] : List SV).getD m.label.toNat default) m = ⟨5, m.dst, m.frm, m.site, m.num, 0, m.key, readVal r (mtx m) m.key, readVer r (mtx m) m.key, m.ask, false, readErr r (mtx m) m.key⟩ := by simp [gotM, hl0]
          rw [e2]
          refine back_may (k := k) hc hm _ _ _ _ _ _ _ (by omega) (by omega) hm.ky (readVal_bd hG.ok _ _) (readVer_bd hG (by omega) (by omega) _ _) hm.ak (told_cd ht') ?_
          by_cases h0 : readErr r (mtx m) m.key = 0
          · simp [msgForm, MV.parts, mHasOf, mHas, hasAll, bit, h0]
          · have v0 : readVal r (mtx m) m.key = 0 := by unfold St.readVal; rw [if_neg h0]
            have w0 : readVer r (mtx m) m.key = 0 := by unfold St.readVer; rw [if_neg h0]
            simp [msgForm, MV.parts, mHasOf, mHas, hasAll, bit, v0, w0]
        · left; rfl
    · rw [if_neg (by omega), if_pos e]
      unfold writeD
      refine ⟨?_, ?_⟩
      · dsimp only
        split
        · rename_i hc2
          unfold wrE at hc2
          rw [if_neg (by omega)] at hc2
          exact St.write_ok hc2
        · exact hG.ok
      · dsimp only
        split
        · rename_i ht
          right
          refine ⟨_, rfl, h, rfl, rfl, rfl, ?_⟩
          unfold doneM
          refine back_may (k := k) hc hm _ _ _ _ _ _ _ (by omega) (by omega) hm.ky ⟨by omega, by omega⟩ ⟨by omega, by omega⟩ hm.ak (told_cd ht) ?_
          simp [msgForm, MV.parts, mHasOf, mHas, hasAll, bit]
        · left; rfl
    · have hl0 : m.label = 0 := by have := hn (Or.inr e); omega
      rw [if_neg (by omega), if_neg (by omega), if_pos e]
      unfold checkD
      refine ⟨hG.ok, Or.inr ⟨_, rfl, h, rfl, rfl, rfl, ?_⟩⟩
      unfold sureM
      rw [hl0]
      refine back_may (k := k) hc hm _ _ _ _ _ _ _ (by omega) (by omega) hm.ky ⟨by omega, by omega⟩ hm.ve ⟨by omega, by omega⟩ ⟨rfl, by omega, by omega⟩ ?_
      simp [msgForm, MV.parts, mHasOf, mHas, hasAll, bit]
    · rw [if_neg (by omega), if_neg (by omega), if_neg (by omega)]
      unfold decideD
      have htx : txOK (mtx m) = true := by
        have := hm.tx
        simp only [txnOK, Bool.and_eq_true] at this
        have h5 := inR_of this.1
        simp only [St.txOK, Bool.and_eq_true]
        exact ⟨St.inR_true h5.1 (by show m.site ≤ 3; omega), this.2⟩
      refine ⟨(St.end_ok (St.end_err (yes := m.yes) hG.ok htx) (v := 961) (by omega) (by omega) hG.ver).1, Or.inr ⟨_, rfl, h, rfl, rfl, rfl, ?_⟩⟩
      unfold backM
      refine back_may (k := k) hc hm _ _ _ _ _ _ _ (by omega) (by omega) ⟨by omega, by omega⟩ ⟨by omega, by omega⟩ ⟨by omega, by omega⟩ ⟨by omega, by omega⟩ ⟨rfl, by omega, by omega⟩ ?_
      simp [msgForm, MV.parts, mHasOf, mHas, hasAll, bit]
end Go.Proofs.YtcmjcopopkafnaaDoor.Pt
