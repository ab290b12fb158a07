/- Texts of this claim, one behind the other. -/
import Derived.Test.YtdjnaahkcnklhabDoorA43CommitAsks
/- What is heard of doubts, as plain data. -/
namespace Go.Proofs.YtdjnaahkcnklhabDoor.Co
open Go.Proofs.YtdjnaahkcnklhabDoor.St (idxI idxI_lt idxI_hit idxI_none)
open Go.Proofs.YtdjnaahkcnklhabDoor.Pt (LS2 cfg_two)
set_option linter.unusedVariables false

theorem bare_idem (bs : List JbV) {js : List JbV} (h : js.map JbV.bare = bs) : bs.map JbV.bare = bs := by
  rw [← h, List.map_map]
  rfl
def dbtM (k f : Int) : MV := ⟨9, f, 0, 0, k, 0, 0, 0, 0, 0, false, 0⟩
theorem dbt_ok {S1 k f nx : Int} {bs : List JbV} (h1 : 1 ≤ S1) (h3 : S1 ≤ 3) (hk : 1 ≤ k ∧ k ≤ 9) (hf : 0 ≤ f ∧ f ≤ S1 - 1) (hd : DOK S1 2 nx bs) : hrErr ⟨S1, LS2, 3, 1, 0⟩ nx bs (dbtM k f) = 0 := by
  have hc := cfg_two (p := 3) h1 (by omega) (by omega) (by omega)
  have hr : rfErr S1 LS2 3 1 0 nx bs = 0 := rf_of hc ⟨by omega, by decide⟩ ⟨by omega, by omega⟩ hd
  have hm : msgFault S1 LS2 3 (dbtM k f) = 0 := by
    refine mf_ok hc rfl ?_ ?_
    · have hk2 : k ≤ 1048576 := by omega
      simp [msgRange, txnOK, partsOK, dbtM, MV.parts, topL, inTops, inR, hf, hk.1, hk2, bit, plc, LS2, isCd]
      omega
    · simp [msgForm, dbtM, MV.parts, mHasOf, mHas, hasAll, bit]
  unfold hrErr
  simp only []
  rw [if_pos hr, if_pos hm]
  rfl
theorem dbt_ans {S1 k f nx : Int} {bs : List JbV} (hE : hrErr ⟨S1, LS2, 3, 1, 0⟩ nx bs (dbtM k f) = 0) (hb : bs.map JbV.bare = bs) : HearAns ⟨S1, LS2, 3, 1, 0⟩ nx bs (dbtM k f) = ⟨nx, bs, if idxI (isN k) bs = -1 then [decM 0 k false f] else if (decide ((bs.getD (idxI (isN k) bs).toNat default).state = 3) && (bs.getD (idxI (isN k) bs).toNat default).asked.any fun y => f == y) = true then [decM 0 k true f] else [], [], [], 0, 0⟩ := by
  unfold HearAns
  rw [if_pos hE]
  have e0 : tn0 nx bs = ⟨nx, bs, [], [], [], 0, 0⟩ := by unfold tn0; rw [hb]
  rw [e0]
  unfold Tn.heard
  rw [if_pos (show (dbtM k f).kind = 9 from rfl)]
  show (if idxI (isN k) bs = -1 then _ else _) = _
  by_cases hi : idxI (isN k) bs = -1
  · rw [if_pos hi, if_pos hi]; rfl
  · rw [if_neg hi, if_neg hi]
    have hn := (idx_get hi).2
    unfold Tn.doubted
    show (if (decide ((bs.getD (idxI (isN k) bs).toNat default).state = 3) && (bs.getD (idxI (isN k) bs).toNat default).asked.any fun y => f == y) = true then _ else _) = _
    split
    · unfold Tn.told
      show (⟨nx, bs, [] ++ [decM 0 (bs.getD (idxI (isN k) bs).toNat default).n true f], [], [], 0, 0⟩ : Tn) = _
      rw [hn]
      rfl
    · rfl
end Go.Proofs.YtdjnaahkcnklhabDoor.Co
/- A transaction that writes and reads nothing, as plain data. -/
namespace Go.Proofs.YtdjnaahkcnklhabDoor.Co
open Go.Proofs.YtdjnaahkcnklhabDoor.St (idxI idxI_lt idxI_hit idxI_none)
open Go.Proofs.YtdjnaahkcnklhabDoor.Pt (LS2 cfg_two)
set_option linter.unusedVariables false

theorem home_at {s key : Int} (h1 : 1 ≤ s) (h2 : s ≤ 4) (hk : 0 ≤ key ∧ key ≤ 7) : homeNum s LS2 3 key = key % s := by
  have hc := cfg_two (p := 3) h1 h2 (by omega) (by omega)
  unfold homeNum homeErr
  rw [if_pos hc]
  have h3 : (0 ≤ key ∧ key ≤ 7) := hk
  simp [h3]
theorem cl_ok {C : Cx} {nx kind : Int} {bs : List JbV} (hc : cfgFault C.s C.ls C.p = 0) (hl : 0 ≤ C.l ∧ C.l ≤ (C.ls.length : Int) - 1) (hm : 0 ≤ C.me ∧ C.me ≤ C.s - 1) (hd : DOK C.s C.ls.length nx bs) (hk : 1 ≤ kind ∧ kind ≤ 5) : clErr C nx bs kind = 0 := by
  unfold clErr
  rw [if_pos (rf_of hc hl hm hd), if_pos (by simp [inR, hk])]
/-- The config of two labels at label l, at the site 0. -/
abbrev C2 (s l : Int) : Cx := ⟨s, LS2, 3, l, 0⟩
theorem cl_c2 {s l nx kind : Int} {bs : List JbV} (h1 : 1 ≤ s) (h2 : s ≤ 4) (hl : l = 0 ∨ l = 1) (hd : DOK s 2 nx bs) (hk : 1 ≤ kind ∧ kind ≤ 5) : clErr (C2 s l) nx bs kind = 0 :=
  cl_ok (C := C2 s l) (cfg_two (p := 3) h1 h2 (by omega) (by omega)) ⟨by show 0 ≤ l; omega, by show l ≤ 1; omega⟩ ⟨by show (0 : Int) ≤ 0; omega, by show 0 ≤ s - 1; omega⟩ hd hk
theorem dok_begin {s l : Int} (h1 : 1 ≤ s) (h2 : s ≤ 4) (hl : l = 0 ∨ l = 1) : DOK s 2 2 [newJob 1] := by
  have h := ans_begin (s := s) (l := l) h1 h2 hl
  have := good_call (C := ⟨s, LS2, 3, l, 0⟩) (next := 1) (js := []) (room := 6000) (x := ⟨1, 0, 0, 0, 0⟩) h.1
  rw [h.2] at this
  exact this
/-- The job 1 with tasks that are all done. -/
def jDn (ts : List TkV) : JbV := ⟨1, 1, none, 0, 0, none, 0, 0, ts.length, 0, ts, []⟩
theorem jDn_nil : jDn [] = newJob 1 := rfl
/-- and one more that waits -/
def jWt (ts : List TkV) (t : TkV) : JbV := ⟨1, 1, none, 0, 0, none, 0, 0, (ts.length : Int) + 1, 0, ts ++ [t], []⟩
theorem wait_D {ts : List TkV} (h : ∀ t ∈ ts, t.done = true) : waitB (jDn ts) = false := by
  unfold waitB
  cases hl : decide (0 < (jDn ts).tasks.length) with
  | false => rfl
  | true =>
    have hl' : 0 < (jDn ts).tasks.length := of_decide_eq_true hl
    have := h _ (mem_at (l := (jDn ts).tasks) (i := (jDn ts).tasks.length - 1) (by omega))
    rw [this]
    rfl
/-- A Get or a Put of the job 1, all of whose tasks are done. -/
theorem ask_D {s l kind label key value : Int} {ts : List TkV} (h1 : 1 ≤ s) (h2 : s ≤ 4) (hl : l = 0 ∨ l = 1) (hb : label = 0 ∨ label = 1) (hs : kind = 2 → label ≤ l) (hk : 0 ≤ key ∧ key ≤ 7) (hv : 0 ≤ value ∧ value ≤ 1073741824) (hK : kind = 2 ∨ kind = 3) (hd : DOK s 2 2 [jDn ts]) (hdn : ∀ t ∈ ts, t.done = true) (hlen : ts.length < 10) :
    CallAns (C2 s l) 2 [jDn ts] 6000 ⟨kind, 1, label, key, value⟩ = ⟨2, [jWt ts ⟨decide (kind = 3), if kind = 2 then label else l, key, if kind = 2 then 0 else value, 0, ts.length + 1, false, false⟩], [⟨if kind = 2 then 1 else 2, 0, homeNum s LS2 3 key, 0, 1, if kind = 2 then label else 0, key, if kind = 2 then 0 else value, 0, ts.length + 1, false, 0⟩], [], [], 0, 0⟩ := by
  have hc := cl_c2 (kind := kind) (l := l) h1 h2 hl hd (by omega)
  unfold CallAns
  rw [if_pos hc]
  have e1 : ¬ kind = 1 := by omega
  have e2 : idxI (isN 1) (tn0 2 [jDn ts]).js = 0 := idx_one rfl
  have e3 : (tn0 2 [jDn ts]).js.getD 0 default = jDn ts := rfl
  have e4 : askErr (C2 s l) ⟨kind, 1, label, key, value⟩ (jDn ts) = 0 := by
    unfold askErr
    have k0 : (jDn ts).state = 1 := rfl
    have k1 : (kind == 2 || kind == 3) = true := by simpa using hK
    have k2 : (inR key 0 7 && inR value 0 1073741824) = true := by simp [inR, hk, hv]
    have k3 : (kind == 2 && !Cx.sees (C2 s l) label) = false := by
      unfold Cx.sees
      simp only []
      rw [sees_two h1 h2 hl hb]
      rcases hK with rfl | rfl
      · have := hs rfl
        simp [this]
      · rfl
    have k4 : (decide (10 ≤ (jDn ts).tasks.length) || decide (1048576 ≤ (jDn ts).asks)) = false := by
      have a1 : (jDn ts).tasks.length = ts.length := rfl
      have a2 : (jDn ts).asks = (ts.length : Int) := rfl
      rw [a1, a2]
      simp
      omega
    simp only []
    rw [if_pos k0, wait_D hdn, k1, k2, k3, k4]
    rfl
  unfold Tn.call
  simp only [e2, e3, Int.toNat_zero]
  rw [if_neg e1, if_neg (by decide), e4, if_neg (by decide)]
  rcases hK with rfl | rfl
  · rfl
  · rfl
/-- The task that waits is done, by an answer that is well. -/
def dnT (t : TkV) (v n : Int) : TkV := { t with done := true, value := if t.write = true then t.value else v, version := if t.write = true then t.version else n }
theorem back_D {s l : Int} {ts : List TkV} {t : TkV} {m x : MV} {r : St.RV} (h1 : 1 ≤ s) (h2 : s ≤ 4) (hl : l = 0 ∨ l = 1) (hd : DOK s 2 2 [jWt ts t]) (hx : backM 0 m r = x) (hmf : msgFault s LS2 3 x = 0) (hk : x.kind = if t.write = true then 6 else 5) (hn : x.num = 1) (ha : x.ask = t.ask) (hky : x.key = t.key) (hf : x.frm = homeNum s LS2 3 t.key) (hdst : x.dst = 0) (hst : x.site = 0) (hlb : t.write = true ∨ t.label = x.label) (hc : x.code = 0) (hw : t.done = false) :
    backNx (C2 s l) 2 [jWt ts t] m r = 2 ∧ backJs (C2 s l) 2 [jWt ts t] m r = [{ jWt ts t with tasks := ts ++ [dnT t x.value x.version] }] := by
  have hr : rfErr s LS2 3 l 0 2 [jWt ts t] = 0 := rf_of (cfg_two h1 h2 (by omega) (by omega)) ⟨by omega, by show l ≤ 1; omega⟩ ⟨by omega, by omega⟩ hd
  have hE : hrErr (C2 s l) 2 [jWt ts t] x = 0 := by
    unfold hrErr
    rw [if_pos hr, if_pos hmf]
    have e1 : ((x.dst == (C2 s l).me) && (x.site == (C2 s l).me)) = true := by rw [hdst, hst]; rfl
    have e2 : inR x.kind 5 9 = true := by rw [hk]; split <;> rfl
    rw [if_pos e1, if_pos e2]
  have hA : HearAns (C2 s l) 2 [jWt ts t] x = { (⟨2, [jWt ts t], [], [], [], 0, 0⟩ : Tn).rep (C2 s l) (callKind t) 1 x.key x.value x.code with js := [{ jWt ts t with tasks := ts ++ [dnT t x.value x.version] }] } := by
    unfold HearAns
    rw [if_pos hE]
    have e0 : tn0 2 [jWt ts t] = ⟨2, [jWt ts t], [], [], [], 0, 0⟩ := rfl
    rw [e0]
    have hi : idxI (isN x.num) [jWt ts t] = 0 := by rw [hn]; exact idx_one rfl
    have k56 : x.kind = 5 ∨ x.kind = 6 := by rw [hk]; split <;> omega
    unfold Tn.heard
    rw [if_neg (by omega)]
    simp only [hi]
    rw [if_neg (by decide), if_pos k56]
    have hlt : lastT (jWt ts t) = t := by
      unfold lastT jWt
      simp
    have hwt : waitB (jWt ts t) = true := by
      unfold waitB jWt
      simp [hw]
    have hab : ansB ((C2 s l).home t.key) x t = true := by
      unfold ansB
      have a1 : (t.write == (x.kind == 6)) = true := by
        rw [hk]
        cases t.write <;> rfl
      have a4 : (x.frm == (C2 s l).home t.key) = true := by
        rw [hf]
        show (homeNum s LS2 3 t.key == homeNum s LS2 3 t.key) = true
        simp
      have a5 : (t.write || (t.label == x.label)) = true := by
        rcases hlb with h | h
        · rw [h]; rfl
        · rw [h]; simp
      rw [a1, a4, a5, ha, hky]
      simp
    show Tn.answered ⟨2, [jWt ts t], [], [], [], 0, 0⟩ (C2 s l) 0 x = _
    unfold Tn.answered
    have eg : ([jWt ts t] : List JbV).getD 0 default = jWt ts t := rfl
    simp only [eg, hlt]
    rw [hwt, hab, if_pos (by rfl), if_pos hc]
    have et : (jWt ts t).tasks.set ((jWt ts t).tasks.length - 1) (ansTask t x) = ts ++ [dnT t x.value x.version] := by
      unfold jWt
      simp only [List.length_append, List.length_cons, List.length_nil, Nat.zero_add, Nat.add_sub_cancel]
      rw [List.set_append_right _ _ (Nat.le_refl _), Nat.sub_self]
      rfl
    rw [et]
    rfl
  unfold backNx backJs
  have hx' : backM (C2 s l).me m r = x := hx
  rw [hx', if_pos hE, if_pos hE, hA]
  exact ⟨rfl, rfl⟩
theorem dok_ask {s l kind label key value : Int} {ts : List TkV} {T : Tn} (h1 : 1 ≤ s) (h2 : s ≤ 4) (hl : l = 0 ∨ l = 1) (hK : kind = 2 ∨ kind = 3) (hd : DOK s 2 2 [jDn ts]) (hA : CallAns (C2 s l) 2 [jDn ts] 6000 ⟨kind, 1, label, key, value⟩ = T) : DOK s 2 T.next T.js := by
  have h := good_call (C := C2 s l) (next := 2) (js := [jDn ts]) (room := 6000) (x := ⟨kind, 1, label, key, value⟩) (cl_c2 h1 h2 hl hd (by show 1 ≤ kind ∧ kind ≤ 5; omega))
  rw [hA] at h
  exact h
theorem dok_back {s l : Int} {nx : Int} {bs : List JbV} {m : MV} {r : St.RV} {nx' : Int} {bs' : List JbV} (hd : DOK s 2 nx bs) (hb : backNx (C2 s l) nx bs m r = nx' ∧ backJs (C2 s l) nx bs m r = bs') : DOK s 2 nx' bs' := by
  have h := good_back (C := C2 s l) (m := m) (r := r) hd
  rw [hb.1, hb.2] at h
  exact h
theorem jDn_snoc {ts : List TkV} {t u : TkV} : ({ jWt ts t with tasks := ts ++ [u] } : JbV) = jDn (ts ++ [u]) := by
  unfold jWt jDn
  simp
/-- The i-th write: of the key k, with the value i. -/
def wrT (i : Nat) (k : Int) : TkV := ⟨true, 0, k, i, 0, i + 1, true, false⟩
def wrs (ks : List Int) : List TkV := ks.zipIdx.map fun x => wrT x.2 x.1
theorem wrs_snoc (ks : List Int) (k : Int) : wrs (ks ++ [k]) = wrs ks ++ [wrT ks.length k] := by
  unfold wrs
  rw [List.zipIdx_append, List.map_append]
  simp
theorem wrs_len (ks : List Int) : (wrs ks).length = ks.length := by unfold wrs; simp
theorem wrs_mem {ks : List Int} {t : TkV} (h : t ∈ wrs ks) : t.done = true ∧ t.write = true ∧ t.label = 0 ∧ t.key ∈ ks := by
  unfold wrs at h
  obtain ⟨⟨k, i⟩, hm, rfl⟩ := List.mem_map.1 h
  refine ⟨rfl, rfl, rfl, ?_⟩
  have := List.mem_zipIdx hm
  show k ∈ ks
  rw [this.2.2]
  exact List.getElem_mem _
theorem wrs_has {ks : List Int} {k : Int} (h : k ∈ ks) : ∃ t ∈ wrs ks, t.key = k := by
  obtain ⟨i, hi, rfl⟩ := List.getElem_of_mem h
  refine ⟨wrT i ks[i], ?_, rfl⟩
  unfold wrs
  refine List.mem_map.2 ⟨(ks[i], i), ?_, rfl⟩
  rw [List.mem_zipIdx_iff_getElem?]
  simp [hi]
/-- A Put, and its answer. -/
theorem put_W {s : Int} {ks : List Int} {k : Int} (h1 : 1 ≤ s) (h2 : s ≤ 4) (hk : 0 ≤ k ∧ k ≤ 7) (hlen : ks.length < 10) (hd : DOK s 2 2 [jDn (wrs ks)]) :
    CallAns (C2 s 0) 2 [jDn (wrs ks)] 6000 ⟨3, 1, 0, k, ks.length⟩ = ⟨2, [jWt (wrs ks) ⟨true, 0, k, ks.length, 0, ks.length + 1, false, false⟩], [⟨2, 0, k % s, 0, 1, 0, k, ks.length, 0, ks.length + 1, false, 0⟩], [], [], 0, 0⟩ := by
  have h := ask_D (s := s) (l := 0) (kind := 3) (label := 0) (key := k) (value := (ks.length : Int)) (ts := wrs ks) h1 h2 (Or.inl rfl) (Or.inl rfl) (by omega) hk (by omega) (by omega) hd (fun t ht => (wrs_mem ht).1) (by rw [wrs_len]; exact hlen)
  rw [wrs_len, home_at h1 h2 hk] at h
  exact h
theorem mf_done {s k f : Int} {n : Nat} (h1 : 1 ≤ s) (h2 : s ≤ 4) (hk : 0 ≤ k ∧ k ≤ 7) (hf : 0 ≤ f ∧ f ≤ s - 1) (hn : n ≤ 100) : msgFault s LS2 3 ⟨6, f, 0, 0, 1, 0, k, 0, 0, n, false, 0⟩ = 0 := by
  have hc := cfg_two (p := 3) h1 h2 (by omega) (by omega)
  refine mf_ok hc rfl ?_ ?_
  · have hn2 : (n : Int) ≤ 1048576 := by omega
    simp [msgRange, txnOK, partsOK, MV.parts, topL, inTops, inR, hf, hk, hn2, bit, plc, LS2, isCd]
    omega
  · simp [msgForm, MV.parts, mHasOf, mHas, hasAll, bit]
theorem back_W {s : Int} {ks : List Int} {k : Int} (h1 : 1 ≤ s) (h2 : s ≤ 4) (hk : 0 ≤ k ∧ k ≤ 7) (hlen : ks.length < 10) (hd : DOK s 2 2 [jDn (wrs ks)]) :
    backNx (C2 s 0) 2 [jWt (wrs ks) ⟨true, 0, k, ks.length, 0, ks.length + 1, false, false⟩] ⟨2, 0, k % s, 0, 1, 0, k, ks.length, 0, ks.length + 1, false, 0⟩ ⟨0, 0, 0, 0, 0, 0⟩ = 2 ∧ backJs (C2 s 0) 2 [jWt (wrs ks) ⟨true, 0, k, ks.length, 0, ks.length + 1, false, false⟩] ⟨2, 0, k % s, 0, 1, 0, k, ks.length, 0, ks.length + 1, false, 0⟩ ⟨0, 0, 0, 0, 0, 0⟩ = [jDn (wrs (ks ++ [k]))] := by
  have hd2 := dok_ask h1 h2 (Or.inl rfl) (Or.inr rfl) hd (put_W h1 h2 hk hlen hd)
  have hks : 0 ≤ k % s ∧ k % s ≤ s - 1 := ⟨Int.emod_nonneg _ (by omega), by have := Int.emod_lt_of_pos k (show 0 < s by omega); omega⟩
  have h := back_D (s := s) (l := 0) (ts := wrs ks) (t := ⟨true, 0, k, ks.length, 0, ks.length + 1, false, false⟩) (m := ⟨2, 0, k % s, 0, 1, 0, k, ks.length, 0, ks.length + 1, false, 0⟩) (x := ⟨6, k % s, 0, 0, 1, 0, k, 0, 0, ks.length + 1, false, 0⟩) (r := ⟨0, 0, 0, 0, 0, 0⟩) h1 h2 (Or.inl rfl) hd2 rfl (by have := mf_done (n := ks.length + 1) h1 h2 hk hks (by omega); simpa using this) rfl rfl rfl rfl (home_at h1 h2 hk).symm rfl rfl (Or.inl rfl) rfl rfl
  refine ⟨h.1, h.2.trans ?_⟩
  rw [jDn_snoc, wrs_snoc]
  rfl
theorem dok_W {s : Int} {ks : List Int} {k : Int} (h1 : 1 ≤ s) (h2 : s ≤ 4) (hk : 0 ≤ k ∧ k ≤ 7) (hlen : ks.length < 10) (hd : DOK s 2 2 [jDn (wrs ks)]) : DOK s 2 2 [jDn (wrs (ks ++ [k]))] :=
  dok_back (dok_ask h1 h2 (Or.inl rfl) (Or.inr rfl) hd (put_W h1 h2 hk hlen hd)) (back_W h1 h2 hk hlen hd)
/-- How many sites it wrote at. -/
def cntW (S : Nat) (ks : List Int) : Nat := ((List.range S).filter fun i : Nat => ks.any fun k => k % (S : Int) == (i : Int)).length
def handW (S : Nat) (ks : List Int) : List Value := (List.range S).map fun i : Nat => .bool (ks.any fun k => k % (S : Int) == (i : Int))
theorem filt_or {p : Nat → Bool} {r : Nat} : ∀ {l : List Nat}, l.Nodup → r ∈ l → (l.filter fun i => p i || i == r).length = (l.filter p).length + if p r = true then 0 else 1
  | [], _, h => by cases h
  | a :: l, hl, h => by
    rw [List.nodup_cons] at hl
    by_cases e : r = a
    · subst e
      have hl2 : (l.filter fun i => p i || i == r) = l.filter p := by
        refine List.filter_congr fun x hx => ?_
        have : x ≠ r := fun e => hl.1 (e ▸ hx)
        simp [this]
      rw [List.filter_cons, if_pos (by simp), List.length_cons, hl2, List.filter_cons]
      split
      · simp
      · rfl
    · have hm : r ∈ l := by
        rcases List.mem_cons.1 h with h | h
        · exact absurd h e
        · exact h
      have ih := filt_or (p := p) hl.2 hm
      rw [List.filter_cons, List.filter_cons]
      have e2 : (p a || a == r) = p a := by
        have : (a == r) = false := by simp; exact fun h => e h.symm
        rw [this, Bool.or_false]
      rw [e2]
      split
      · simp only [List.length_cons]; omega
      · exact ih
theorem any_snoc (S : Nat) (ks : List Int) (k : Int) (i : Nat) : ((ks ++ [k]).any fun k => k % (S : Int) == (i : Int)) = ((ks.any fun k => k % (S : Int) == (i : Int)) || (k % (S : Int) == (i : Int))) := by
  rw [List.any_append]
  simp
theorem cntW_snoc {S : Nat} {ks : List Int} {k : Int} {r : Nat} (hr : k % (S : Int) = (r : Int)) (hS : r < S) : cntW S (ks ++ [k]) = cntW S ks + if (ks.any fun k => k % (S : Int) == (r : Int)) = true then 0 else 1 := by
  unfold cntW
  have e : (fun i : Nat => (ks ++ [k]).any fun k => k % (S : Int) == (i : Int)) = fun i : Nat => (ks.any fun k => k % (S : Int) == (i : Int)) || i == r := by
    funext i
    rw [any_snoc, hr]
    congr 1
    by_cases h : i = r
    · subst h; simp
    · have h2 : ¬ (r : Int) = (i : Int) := by omega
      have h3 : (i == r) = false := by simpa using h
      rw [h3]
      simpa using h2
  rw [e]
  exact filt_or (p := fun i : Nat => ks.any fun k => k % (S : Int) == (i : Int)) List.nodup_range (List.mem_range.2 hS)
theorem handW_len (S : Nat) (ks : List Int) : (handW S ks).length = S := by unfold handW; simp
theorem handW_get {S : Nat} {ks : List Int} {i : Nat} (h : i < S) : (handW S ks).getD i (.bool false) = .bool (ks.any fun k => k % (S : Int) == (i : Int)) := by
  unfold handW
  simp [List.getD, h]
theorem handW_at {S : Nat} {ks : List Int} {i : Nat} (h : i < (handW S ks).length) : (handW S ks)[i] = .bool (ks.any fun k => k % (S : Int) == (i : Int)) := by
  simp [handW]
theorem handW_snoc {S : Nat} {ks : List Int} {k : Int} {r : Nat} (hr : k % (S : Int) = (r : Int)) (hS : r < S) : handW S (ks ++ [k]) = (handW S ks).set r (.bool true) := by
  apply List.ext_getElem
  · simp [handW_len]
  · intro i h1 h2
    have hi : i < S := by rw [handW_len] at h1; exact h1
    rw [List.getElem_set, handW_at, any_snoc, hr]
    split
    · rename_i e; subst e; simp
    · rename_i e
      have h3 : ((r : Int) == (i : Int)) = false := by simp; omega
      rw [h3, Bool.or_false, handW_at]
theorem handW_same {S : Nat} {ks : List Int} {k : Int} {r : Nat} (hr : k % (S : Int) = (r : Int)) (hS : r < S) (ha : (ks.any fun k => k % (S : Int) == (r : Int)) = true) : handW S (ks ++ [k]) = handW S ks := by
  rw [handW_snoc hr hS]
  apply List.ext_getElem
  · simp
  · intro i h1 h2
    rw [List.getElem_set]
    split
    · rename_i e
      subst e
      rw [handW_at, ha]
    · rfl
theorem hands_W {S : Nat} {ks : List Int} (h1 : 1 ≤ S) (h2 : S ≤ 4) (hks : ∀ k ∈ ks, 0 ≤ k ∧ k ≤ 7) : (C2 S 0).hands (wrs ks) = ((List.range S).filter fun i : Nat => ks.any fun k => k % (S : Int) == (i : Int)).map fun i : Nat => (i : Int) := by
  unfold Cx.hands handsOf handsTo
  show List.filter _ ((List.range ((S : Int).toNat)).map fun i : Nat => (i : Int)) = _
  rw [Int.toNat_natCast, List.filter_map]
  congr 1
  refine List.filter_congr fun i hi => ?_
  show ((wrs ks).any (handAt (S : Int) LS2 3 0 (i : Int))) = _
  rw [Bool.eq_iff_iff, List.any_eq_true, List.any_eq_true]
  constructor
  · rintro ⟨t, ht, hh⟩
    have hm := wrs_mem ht
    unfold handAt at hh
    simp only [Bool.and_eq_true, beq_iff_eq] at hh
    rw [home_at (by omega) (by omega) (hks _ hm.2.2.2)] at hh
    exact ⟨t.key, hm.2.2.2, by simpa using hh.2⟩
  · rintro ⟨k, hk, hh⟩
    obtain ⟨t, ht, rfl⟩ := wrs_has hk
    have hm := wrs_mem ht
    refine ⟨t, ht, ?_⟩
    unfold handAt
    rw [home_at (by omega) (by omega) (hks _ hk), hm.2.2.1]
    simpa using hh
theorem commit_W {S : Nat} {ks : List Int} (h1 : 1 ≤ S) (h2 : S ≤ 4) (hks : ∀ k ∈ ks, 0 ≤ k ∧ k ≤ 7) (hd : DOK S 2 2 [jDn (wrs ks)]) :
    ∃ js ms rs, CallAns (C2 S 0) 2 [jDn (wrs ks)] 6000 ⟨4, 1, 0, 0, 0⟩ = ⟨2, js, ms, rs, [⟨0, 4, 1, 0, 0, 0⟩], 1, 1⟩ ∧ js.length = (if cntW S ks = 0 then 0 else 1) ∧ rs.length = (if cntW S ks = 0 then 0 else 1) ∧ ms.length = cntW S ks ∧ ∀ m ∈ ms, ∃ r : Nat, r < S ∧ m = decM 0 1 true r ∧ (ks.any fun k => k % (S : Int) == (r : Int)) = true := by
  have hc := cl_c2 (s := (S : Int)) (l := 0) (kind := 4) (by omega) (by omega) (Or.inl rfl) hd (by omega)
  have hH := hands_W h1 h2 hks
  have hcnt : ((C2 S 0).hands (wrs ks)).length = cntW S ks := by rw [hH]; simp [cntW]
  have hne : ks ≠ [] → ∃ t ∈ wrs ks, t.write = true := fun hn => by
    cases ks with
    | nil => exact absurd rfl hn
    | cons k r =>
      obtain ⟨t, ht, -⟩ := wrs_has (List.mem_cons_self (a := k) (l := r))
      exact ⟨t, ht, (wrs_mem ht).2.1⟩
  have hA : CallAns (C2 S 0) 2 [jDn (wrs ks)] 6000 ⟨4, 1, 0, 0, 0⟩ = Tn.comm ⟨2, [jDn (wrs ks)], [], [], [], 1, 0⟩ (C2 S 0) 0 := by
    unfold CallAns
    rw [if_pos hc]
    have e2 : idxI (isN 1) (tn0 2 [jDn (wrs ks)]).js = 0 := idx_one rfl
    have e3 : (tn0 2 [jDn (wrs ks)]).js.getD 0 default = jDn (wrs ks) := rfl
    have e4 : askErr (C2 S 0) ⟨4, 1, 0, 0, 0⟩ (jDn (wrs ks)) = 0 := by
      unfold askErr
      have k0 : (jDn (wrs ks)).state = 1 := rfl
      rw [if_pos k0, wait_D (fun t ht => (wrs_mem ht).1)]
      rfl
    unfold Tn.call
    simp only [e2, e3, Int.toNat_zero]
    rw [if_neg (by decide), if_neg (by decide), e4, if_neg (by decide), if_neg (by decide), if_neg (by decide), if_pos trivial]
    unfold Tn.check
    rw [e3]
    have es : allSure (jDn (wrs ks)).tasks = true := by
      unfold allSure
      have : ((wrs ks).any fun t => !t.write && !t.sure) = false := by
        rw [List.any_eq_false]
        intro t ht
        rw [(wrs_mem ht).2.1]
        simp
      show (!((wrs ks).any fun t => !t.write && !t.sure)) = true
      rw [this]
      rfl
    rw [if_pos es]
    rfl
  rw [hA]
  unfold Tn.comm
  have e3 : ([jDn (wrs ks)] : List JbV).getD 0 default = jDn (wrs ks) := rfl
  simp only [e3]
  by_cases h0 : (C2 S 0).hands (wrs ks) = []
  · rw [if_pos (show (C2 S 0).hands (jDn (wrs ks)).tasks = [] from h0)]
    have hz : cntW S ks = 0 := by rw [← hcnt, h0]; rfl
    refine ⟨[], [], [], ?_, by rw [if_pos hz]; rfl, by rw [if_pos hz]; rfl, by rw [hz]; rfl, fun m hm => by cases hm⟩
    rfl
  · rw [if_neg (show ¬ (C2 S 0).hands (jDn (wrs ks)).tasks = [] from h0)]
    have hz : cntW S ks ≠ 0 := by rw [← hcnt]; exact fun h => h0 (List.length_eq_zero_iff.1 h)
    have hk : ks ≠ [] := fun e => by
      subst e
      apply hz
      unfold cntW
      simp
    have hw : ((jDn (wrs ks)).tasks.any fun t => t.write) = true := by
      obtain ⟨t, ht, hw⟩ := hne hk
      exact List.any_eq_true.2 ⟨t, ht, hw⟩
    rw [if_pos hw]
    refine ⟨_, _, _, rfl, by rw [if_neg hz]; rfl, by rw [if_neg hz]; rfl, ?_, ?_⟩
    · show ([] ++ ((C2 S 0).hands (wrs ks)).map (decM 0 1 true)).length = _
      rw [List.nil_append, List.length_map, hcnt]
    · intro m hm
      have hm2 : m ∈ ((C2 S 0).hands (wrs ks)).map (decM 0 1 true) := hm
      rw [hH] at hm2
      obtain ⟨x, hx, rfl⟩ := List.mem_map.1 hm2
      obtain ⟨r, hr, rfl⟩ := List.mem_map.1 hx
      obtain ⟨hr1, hr2⟩ := List.mem_filter.1 hr
      exact ⟨r, List.mem_range.1 hr1, rfl, hr2⟩
end Go.Proofs.YtdjnaahkcnklhabDoor.Co
/- A transaction that reads and writes nothing, as plain data. -/
namespace Go.Proofs.YtdjnaahkcnklhabDoor.Co
open Go.Proofs.YtdjnaahkcnklhabDoor.St (idxI idxI_lt idxI_hit idxI_none)
open Go.Proofs.YtdjnaahkcnklhabDoor.Pt (LS2 cfg_two)
set_option linter.unusedVariables false

/-- The i-th read; y: it is sure. -/
def rdT (y : Bool) (i : Nat) : TkV := ⟨false, (i : Int) % 2, i, i, (i : Int) % 4, i + 1, true, y⟩
def rds (n : Nat) : List TkV := (List.range n).map (rdT false)
/-- The first i ones are sure. -/
def rdsS (n i : Nat) : List TkV := (List.range n).map fun j => rdT (decide (j < i)) j
theorem rds_len (n : Nat) : (rds n).length = n := by simp [rds]
theorem rdsS_zero (n : Nat) : rdsS n 0 = rds n := by simp [rdsS, rds]
theorem rds_succ (n : Nat) : rds (n + 1) = rds n ++ [rdT false n] := by simp [rds, List.range_succ]
theorem rds_mem {n : Nat} {t : TkV} (h : t ∈ rds n) : t.done = true ∧ t.write = false ∧ t.sure = false := by
  unfold rds at h
  obtain ⟨i, hi, rfl⟩ := List.mem_map.1 h
  exact ⟨rfl, rfl, rfl⟩
theorem get_R {s : Int} {i : Nat} (h1 : 1 ≤ s) (h2 : s ≤ 4) (hi : i < 5) (hd : DOK s 2 2 [jDn (rds i)]) :
    CallAns (C2 s 1) 2 [jDn (rds i)] 6000 ⟨2, 1, (i : Int) % 2, i, 0⟩ = ⟨2, [jWt (rds i) ⟨false, (i : Int) % 2, i, 0, 0, i + 1, false, false⟩], [⟨1, 0, (i : Int) % s, 0, 1, (i : Int) % 2, i, 0, 0, i + 1, false, 0⟩], [], [], 0, 0⟩ := by
  have h := ask_D (s := s) (l := 1) (kind := 2) (label := (i : Int) % 2) (key := i) (value := 0) (ts := rds i) h1 h2 (Or.inr rfl) (by omega) (by omega) (by omega) (by omega) (by omega) hd (fun t ht => (rds_mem ht).1) (by rw [rds_len]; omega)
  rw [rds_len, home_at h1 h2 (by omega)] at h
  exact h
theorem mf_got {s k f lb v n a : Int} (h1 : 1 ≤ s) (h2 : s ≤ 4) (hk : 0 ≤ k ∧ k ≤ 7) (hf : 0 ≤ f ∧ f ≤ s - 1) (hl : lb = 0 ∨ lb = 1) (hv : 0 ≤ v ∧ v ≤ 100) (hn : 0 ≤ n ∧ n ≤ 100) (ha : 0 ≤ a ∧ a ≤ 100) : msgFault s LS2 3 ⟨5, f, 0, 0, 1, lb, k, v, n, a, false, 0⟩ = 0 := by
  have hc := cfg_two (p := 3) h1 h2 (by omega) (by omega)
  refine mf_ok hc rfl ?_ ?_
  · have hn2 : n ≤ 1048576 := by omega
    have ha2 : a ≤ 1048576 := by omega
    have hv2 : v ≤ 1073741824 := by omega
    have hl2 : 0 ≤ lb ∧ lb ≤ 5 := by omega
    have hl3 : lb < 2 := by omega
    simp [msgRange, txnOK, partsOK, MV.parts, topL, inTops, inR, hf, hk, hn, hn2, ha, ha2, hv, hv2, hl2, bit, plc, LS2, isCd]
    omega
  · simp [msgForm, MV.parts, mHasOf, mHas, hasAll, bit]
theorem mf_sure {s k f lb n : Int} {y : Bool} (h1 : 1 ≤ s) (h2 : s ≤ 4) (hk : 0 ≤ k ∧ k ≤ 7) (hf : 0 ≤ f ∧ f ≤ s - 1) (hl : lb = 0 ∨ lb = 1) (hn : 0 ≤ n ∧ n ≤ 100) : msgFault s LS2 3 ⟨7, f, 0, 0, 1, lb, k, 0, n, 0, y, 0⟩ = 0 := by
  have hc := cfg_two (p := 3) h1 h2 (by omega) (by omega)
  refine mf_ok hc rfl ?_ ?_
  · have hn2 : n ≤ 1048576 := by omega
    have hl2 : 0 ≤ lb ∧ lb ≤ 5 := by omega
    have hl3 : lb < 2 := by omega
    cases y <;> simp [msgRange, txnOK, partsOK, MV.parts, topL, inTops, inR, hf, hk, hn, hn2, hl2, bit, plc, LS2, isCd] <;> omega
  · cases y <;> simp [msgForm, MV.parts, mHasOf, mHas, hasAll, bit]
theorem back_R {s : Int} {i : Nat} (h1 : 1 ≤ s) (h2 : s ≤ 4) (hi : i < 5) (hd : DOK s 2 2 [jDn (rds i)]) :
    backNx (C2 s 1) 2 [jWt (rds i) ⟨false, (i : Int) % 2, i, 0, 0, i + 1, false, false⟩] ⟨1, 0, (i : Int) % s, 0, 1, (i : Int) % 2, i, 0, 0, i + 1, false, 0⟩ ⟨0, i, 0, 0, i, 0⟩ = 2 ∧ backJs (C2 s 1) 2 [jWt (rds i) ⟨false, (i : Int) % 2, i, 0, 0, i + 1, false, false⟩] ⟨1, 0, (i : Int) % s, 0, 1, (i : Int) % 2, i, 0, 0, i + 1, false, 0⟩ ⟨0, i, 0, 0, i, 0⟩ = [jDn (rds (i + 1))] := by
  have hd2 := dok_ask h1 h2 (Or.inr rfl) (Or.inl rfl) hd (get_R h1 h2 hi hd)
  have hks : 0 ≤ (i : Int) % s ∧ (i : Int) % s ≤ s - 1 := ⟨Int.emod_nonneg _ (by omega), by have := Int.emod_lt_of_pos (i : Int) (show 0 < s by omega); omega⟩
  have e1 : pk (i : Int) 50 = i := by rw [pk_pos (by omega)]; omega
  have e2 : pk (i : Int) 4 = (i : Int) % 4 := pk_pos (by omega)
  have h := back_D (s := s) (l := 1) (ts := rds i) (t := ⟨false, (i : Int) % 2, i, 0, 0, i + 1, false, false⟩) (m := ⟨1, 0, (i : Int) % s, 0, 1, (i : Int) % 2, i, 0, 0, i + 1, false, 0⟩) (x := ⟨5, (i : Int) % s, 0, 0, 1, (i : Int) % 2, i, i, (i : Int) % 4, i + 1, false, 0⟩) (r := ⟨0, i, 0, 0, i, 0⟩) h1 h2 (Or.inr rfl) hd2 (by show (⟨5, (i : Int) % s, 0, 0, 1, (i : Int) % 2, i, pk (i : Int) 50, pk (i : Int) 4, i + 1, false, 0⟩ : MV) = _; rw [e1, e2]) (mf_got h1 h2 (by omega) hks (by omega) (by omega) (by omega) (by omega)) rfl rfl rfl rfl (home_at h1 h2 (by omega)).symm rfl rfl (Or.inr rfl) rfl rfl
  refine ⟨h.1, h.2.trans ?_⟩
  rw [jDn_snoc, rds_succ]
  rfl
theorem dok_R {s : Int} {i : Nat} (h1 : 1 ≤ s) (h2 : s ≤ 4) (hi : i < 5) (hd : DOK s 2 2 [jDn (rds i)]) : DOK s 2 2 [jDn (rds (i + 1))] :=
  dok_back (dok_ask h1 h2 (Or.inr rfl) (Or.inl rfl) hd (get_R h1 h2 hi hd)) (back_R h1 h2 hi hd)
/-- The job while it is checked. -/
def jC (n i : Nat) : JbV := ⟨1, 2, none, 0, 0, none, 0, 0, n, 0, rdsS n i, []⟩
def ckM (s : Int) (i : Nat) : MV := ⟨3, 0, (i : Int) % s, 0, 1, (i : Int) % 2, i, 0, (i : Int) % 4, 0, false, 0⟩
theorem commit_R {s : Int} {n : Nat} (h1 : 1 ≤ s) (h2 : s ≤ 4) (hn : 1 ≤ n) (hn5 : n ≤ 5) (hd : DOK s 2 2 [jDn (rds n)]) :
    CallAns (C2 s 1) 2 [jDn (rds n)] 6000 ⟨4, 1, 0, 0, 0⟩ = ⟨2, [jC n 0], (List.range n).map (ckM s), [], [], 1, 0⟩ := by
  have hc := cl_c2 (s := s) (l := 1) (kind := 4) h1 h2 (Or.inr rfl) hd (by omega)
  unfold CallAns
  rw [if_pos hc]
  have e2 : idxI (isN 1) (tn0 2 [jDn (rds n)]).js = 0 := idx_one rfl
  have e3 : (tn0 2 [jDn (rds n)]).js.getD 0 default = jDn (rds n) := rfl
  have e4 : askErr (C2 s 1) ⟨4, 1, 0, 0, 0⟩ (jDn (rds n)) = 0 := by
    unfold askErr
    have k0 : (jDn (rds n)).state = 1 := rfl
    rw [if_pos k0, wait_D (fun t ht => (rds_mem ht).1)]
    rfl
  unfold Tn.call
  simp only [e2, e3, Int.toNat_zero]
  rw [if_neg (by decide), if_neg (by decide), e4, if_neg (by decide), if_neg (by decide), if_neg (by decide), if_pos trivial]
  unfold Tn.check
  rw [e3]
  have es : allSure (jDn (rds n)).tasks = false := by
    unfold allSure
    have : ((rds n).any fun t => !t.write && !t.sure) = true := by
      rw [List.any_eq_true]
      refine ⟨rdT false 0, ?_, rfl⟩
      unfold rds
      exact List.mem_map.2 ⟨0, List.mem_range.2 (by omega), rfl⟩
    show (!((rds n).any fun t => !t.write && !t.sure)) = false
    rw [this]
    rfl
  rw [if_neg (by rw [es]; decide)]
  have em : chkMs s LS2 3 0 1 (rds n) = (List.range n).map (ckM s) := by
    unfold chkMs
    have ef : (rds n).filter unsure = rds n := List.filter_eq_self.2 fun t ht => by
      have := rds_mem ht
      unfold unsure
      rw [this.2.1, this.2.2]
      rfl
    rw [ef]
    unfold rds
    rw [List.map_map]
    refine List.map_congr_left fun i hi => ?_
    have hi2 := List.mem_range.1 hi
    show chkM s LS2 3 0 1 (rdT false i) = ckM s i
    unfold chkM ckM
    show (⟨3, 0, homeNum s LS2 3 (i : Int), 0, 1, (i : Int) % 2, i, 0, (i : Int) % 4, 0, false, 0⟩ : MV) = _
    rw [home_at h1 h2 (by omega)]
  have ej : ({ jDn (rds n) with state := 2, age := 0 } : JbV) = jC n 0 := by
    unfold jDn jC
    rw [rdsS_zero, rds_len]
  show (⟨2, [({ jDn (rds n) with state := 2, age := 0 } : JbV)], [] ++ chkMs s LS2 3 0 1 (rds n), [], [], 1, 0⟩ : Tn) = _
  rw [em, ej]
  rfl
def srM (s : Int) (i : Nat) (y : Bool) : MV := ⟨7, (i : Int) % s, 0, 0, 1, (i : Int) % 2, i, 0, (i : Int) % 4, 0, y, 0⟩
theorem dok_C {s : Int} {n : Nat} (h1 : 1 ≤ s) (h2 : s ≤ 4) (hn : 1 ≤ n) (hn5 : n ≤ 5) (hd : DOK s 2 2 [jDn (rds n)]) : DOK s 2 2 [jC n 0] := by
  have h := good_call (C := C2 s 1) (next := 2) (js := [jDn (rds n)]) (room := 6000) (x := ⟨4, 1, 0, 0, 0⟩) (cl_c2 h1 h2 (Or.inr rfl) hd (by show (1 : Int) ≤ 4 ∧ (4 : Int) ≤ 5; omega))
  rw [commit_R h1 h2 hn hn5 hd] at h
  exact h
theorem hr_C {s : Int} {n i : Nat} {y : Bool} (h1 : 1 ≤ s) (h2 : s ≤ 4) (hi : i < 5) (hd : DOK s 2 2 [jC n i]) : hrErr (C2 s 1) 2 [jC n i] (srM s i y) = 0 := by
  have hr : rfErr s LS2 3 1 0 2 [jC n i] = 0 := rf_of (cfg_two h1 h2 (by omega) (by omega)) ⟨by omega, by decide⟩ ⟨by omega, by omega⟩ hd
  have hks : 0 ≤ (i : Int) % s ∧ (i : Int) % s ≤ s - 1 := ⟨Int.emod_nonneg _ (by omega), by have := Int.emod_lt_of_pos (i : Int) (show 0 < s by omega); omega⟩
  have hm : msgFault s LS2 3 (srM s i y) = 0 := mf_sure h1 h2 (by omega) hks (by omega) (by omega)
  unfold hrErr
  rw [if_pos hr, if_pos hm]
  rfl
theorem mark_S {s : Int} {n i : Nat} {y : Bool} : (rdsS n i).map (mark (srM s i y)) = rdsS n (i + 1) := by
  unfold rdsS
  rw [List.map_map]
  refine List.map_congr_left fun j hj => ?_
  show mark (srM s i y) (rdT (decide (j < i)) j) = rdT (decide (j < i + 1)) j
  unfold mark
  by_cases e : j = i
  · subst e
    have : readB (srM s j y) (rdT (decide (j < j)) j) = true := by simp [readB, srM, rdT]
    rw [if_pos this]
    simp [rdT]
  · have : ¬ readB (srM s i y) (rdT (decide (j < i)) j) = true := by
      simp [readB, srM, rdT]
      omega
    rw [if_neg this]
    have e2 : decide (j < i + 1) = decide (j < i) := by
      rw [decide_eq_decide]
      omega
    rw [e2]
theorem sure_S {n i : Nat} : allSure (rdsS n i) = decide (n ≤ i) := by
  unfold allSure
  by_cases h : n ≤ i
  · rw [decide_eq_true h]
    have : ((rdsS n i).any fun t => !t.write && !t.sure) = false := by
      rw [List.any_eq_false]
      intro t ht
      unfold rdsS at ht
      obtain ⟨j, hj, rfl⟩ := List.mem_map.1 ht
      have := List.mem_range.1 hj
      simp [rdT]
      omega
    rw [this]
    rfl
  · rw [decide_eq_false h]
    have : ((rdsS n i).any fun t => !t.write && !t.sure) = true := by
      rw [List.any_eq_true]
      refine ⟨rdT (decide (i < i)) i, ?_, by simp [rdT]⟩
      unfold rdsS
      exact List.mem_map.2 ⟨i, List.mem_range.2 (by omega), rfl⟩
    rw [this]
    rfl
theorem any_S {s : Int} {n i : Nat} {y : Bool} (hi : i < n) : (rdsS n i).any (readB (srM s i y)) = true := by
  rw [List.any_eq_true]
  refine ⟨rdT (decide (i < i)) i, ?_, by simp [readB, srM, rdT]⟩
  unfold rdsS
  exact List.mem_map.2 ⟨i, List.mem_range.2 hi, rfl⟩
theorem heard_C {s : Int} {n i : Nat} {y : Bool} (h1 : 1 ≤ s) (h2 : s ≤ 4) (hi : i < 5) (hd : DOK s 2 2 [jC n i]) : HearAns (C2 s 1) 2 [jC n i] (srM s i y) = (⟨2, [jC n i], [], [], [], 0, 0⟩ : Tn).sured (C2 s 1) 0 (srM s i y) := by
  unfold HearAns
  rw [if_pos (hr_C h1 h2 hi hd)]
  have e0 : tn0 2 [jC n i] = ⟨2, [jC n i], [], [], [], 0, 0⟩ := rfl
  rw [e0]
  have hx : idxI (isN (srM s i y).num) [jC n i] = 0 := idx_one rfl
  unfold Tn.heard
  simp only [hx]
  rw [if_neg (by show ¬ (7 : Int) = 9; decide), if_neg (by decide), if_neg (by show ¬ ((7 : Int) = 5 ∨ (7 : Int) = 6); decide), if_pos (by rfl)]
  rfl
theorem cond_C {s : Int} {n i : Nat} {y : Bool} (h1 : 1 ≤ s) (h2 : s ≤ 4) (hi : i < n) (hn : n ≤ 5) : (decide ((jC n i).state = 2) && ((srM s i y).frm == (C2 s 1).home (srM s i y).key) && (jC n i).tasks.any (readB (srM s i y))) = true := by
  have e1 : (jC n i).tasks.any (readB (srM s i y)) = true := any_S hi
  have e2 : ((srM s i y).frm == (C2 s 1).home (srM s i y).key) = true := by
    show ((i : Int) % s == homeNum s LS2 3 (i : Int)) = true
    rw [home_at h1 h2 (by omega)]
    simp
  rw [e1, e2]
  rfl
/-- Sure, and not the last one. -/
theorem sure_on {s : Int} {n i : Nat} (h1 : 1 ≤ s) (h2 : s ≤ 4) (hi : i + 1 < n) (hn : n ≤ 5) (hd : DOK s 2 2 [jC n i]) : HearAns (C2 s 1) 2 [jC n i] (srM s i true) = ⟨2, [jC n (i + 1)], [], [], [], 0, 0⟩ := by
  rw [heard_C h1 h2 (by omega) hd]
  unfold Tn.sured
  have eg : ([jC n i] : List JbV).getD 0 default = jC n i := rfl
  simp only [eg]
  rw [if_pos (cond_C h1 h2 (by omega) hn), if_pos (by rfl)]
  have et : (jC n i).tasks.map (mark (srM s i true)) = rdsS n (i + 1) := mark_S
  rw [et, sure_S, if_neg (by simp; omega)]
  rfl
theorem dok_on {s : Int} {n i : Nat} (h1 : 1 ≤ s) (h2 : s ≤ 4) (hi : i + 1 < n) (hn : n ≤ 5) (hd : DOK s 2 2 [jC n i]) : DOK s 2 2 [jC n (i + 1)] := by
  have h := good_hear (C := C2 s 1) (m := srM s i true) (hr_C h1 h2 (by omega) hd)
  rw [sure_on h1 h2 hi hn hd] at h
  exact h
theorem sure_last {s : Int} {n i : Nat} (h1 : 1 ≤ s) (h2 : s ≤ 4) (hi : i + 1 = n) (hn : n ≤ 5) (hd : DOK s 2 2 [jC n i]) : ∃ nx js ms rs, HearAns (C2 s 1) 2 [jC n i] (srM s i true) = ⟨nx, js, ms, rs, [⟨0, 4, 1, 0, 0, 0⟩], 0, 1⟩ := by
  rw [heard_C h1 h2 (by omega) hd]
  unfold Tn.sured
  have eg : ([jC n i] : List JbV).getD 0 default = jC n i := rfl
  simp only [eg]
  rw [if_pos (cond_C h1 h2 (by omega) hn), if_pos (by rfl)]
  have et : (jC n i).tasks.map (mark (srM s i true)) = rdsS n (i + 1) := mark_S
  rw [et, sure_S, if_pos (by simp; omega)]
  unfold Tn.comm
  split
  · exact ⟨_, _, _, _, rfl⟩
  · exact ⟨_, _, _, _, rfl⟩
theorem sure_bad {s : Int} {n i : Nat} (h1 : 1 ≤ s) (h2 : s ≤ 4) (hi : i < n) (hn : n ≤ 5) (hd : DOK s 2 2 [jC n i]) : ∃ nx js ms rs, HearAns (C2 s 1) 2 [jC n i] (srM s i false) = ⟨nx, js, ms, rs, [⟨0, 4, 1, 0, 0, 11⟩], 0, 0⟩ := by
  rw [heard_C h1 h2 (by omega) hd]
  unfold Tn.sured
  have eg : ([jC n i] : List JbV).getD 0 default = jC n i := rfl
  simp only [eg]
  rw [if_pos (cond_C h1 h2 hi hn), if_neg (by show ¬ false = true; decide)]
  exact ⟨_, _, _, _, rfl⟩
end Go.Proofs.YtdjnaahkcnklhabDoor.Co
