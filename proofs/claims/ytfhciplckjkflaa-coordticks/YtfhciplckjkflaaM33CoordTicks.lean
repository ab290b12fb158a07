/- Texts of this claim, one behind the other. -/
import Derived.Test.YtfhciplckjkflaaM30CoordTicks
/- Whatever is called and heard, a desk stays one that may be: on plain data. -/
namespace Go.Proofs.Ytfhciplckjkflaa.Co
open Go.Proofs.Ytfhciplckjkflaa.St (idxI idxI_lt)
set_option linter.unusedVariables false

/-- All are done but perhaps the last one. -/
def LastOK (one : Prop) : List TkV → Prop
  | [] => True
  | t :: r => (t.done = true ∨ (r = [] ∧ one)) ∧ LastOK one r
theorem tks_iff {nl asks state : Int} : ∀ {l : List TkV} {low : Int}, tksGo nl asks state low l = true ↔ (∀ t ∈ l, low ≤ t.ask ∧ t.ask ≤ asks ∧ tkOK nl t = true) ∧ l.Pairwise (fun a b => a.ask < b.ask) ∧ LastOK (state = 1) l
  | [], low => by simp [tksGo, LastOK]
  | t :: r, low => by
    simp only [tksGo, Bool.and_eq_true, inR, decide_eq_true_eq, Bool.or_eq_true, List.isEmpty_iff, List.mem_cons, List.pairwise_cons, LastOK]
    rw [tks_iff (l := r)]
    constructor
    · rintro ⟨⟨⟨⟨h1, h2⟩, h3⟩, h4⟩, h5, h6, h7⟩
      refine ⟨?_, ⟨fun a ha => ?_, h6⟩, h4, h7⟩
      · rintro a (rfl | ha)
        · exact ⟨h1, h2, h3⟩
        · have := h5 a ha; exact ⟨by omega, this.2⟩
      · have := h5 a ha; omega
    · rintro ⟨h1, ⟨h2, h3⟩, h4, h5⟩
      have h6 := h1 t (Or.inl rfl)
      exact ⟨⟨⟨⟨h6.1, h6.2.1⟩, h6.2.2⟩, h4⟩, fun a ha => ⟨by have := h2 a ha; omega, (h1 a (Or.inr ha)).2⟩, h3, h5⟩
theorem rise_iff {s : Int} : ∀ {l : List Int} {low : Int}, rise s low l = true ↔ (∀ x ∈ l, low ≤ x ∧ x ≤ s - 1) ∧ l.Pairwise (· < ·)
  | [], low => by simp [rise]
  | a :: r, low => by
    simp only [rise, Bool.and_eq_true, inR, decide_eq_true_eq, List.mem_cons, List.pairwise_cons]
    rw [rise_iff (l := r)]
    constructor
    · rintro ⟨⟨h1, h2⟩, h3, h4⟩
      refine ⟨?_, fun x hx => ?_, h4⟩
      · rintro x (rfl | hx)
        · exact ⟨h1, h2⟩
        · have := h3 x hx; omega
      · have := h3 x hx; omega
    · rintro ⟨h1, h2, h3⟩
      exact ⟨h1 a (Or.inl rfl), fun x hx => ⟨by have := h2 x hx; omega, (h1 x (Or.inr hx)).2⟩, h3⟩
theorem jbs_iff {s nl next : Int} : ∀ {l : List JbV} {low : Int}, jbsGo s nl next low l = true ↔ (∀ j ∈ l, low ≤ j.n ∧ j.n ≤ next - 1 ∧ jbOK s nl j = true) ∧ l.Pairwise (fun a b => a.n < b.n)
  | [], low => by simp [jbsGo]
  | a :: r, low => by
    simp only [jbsGo, Bool.and_eq_true, inR, decide_eq_true_eq, List.mem_cons, List.pairwise_cons]
    rw [jbs_iff (l := r)]
    constructor
    · rintro ⟨⟨⟨h1, h2⟩, h3⟩, h4, h5⟩
      refine ⟨?_, fun x hx => ?_, h5⟩
      · rintro x (rfl | hx)
        · exact ⟨h1, h2, h3⟩
        · have := h4 x hx; exact ⟨by omega, this.2⟩
      · have := h4 x hx; omega
    · rintro ⟨h1, h2, h3⟩
      have h4 := h1 a (Or.inl rfl)
      exact ⟨⟨⟨h4.1, h4.2.1⟩, h4.2.2⟩, fun x hx => ⟨by have := h2 x hx; omega, (h1 x (Or.inr hx)).2⟩, h3⟩
/-- What a job may be, in words. -/
structure JOK (s nl : Int) (j : JbV) : Prop where
  age : 0 ≤ j.age ∧ j.age ≤ 1048576
  st : 1 ≤ j.state ∧ j.state ≤ 3
  asks : 0 ≤ j.asks ∧ j.asks ≤ 1048576
  rise : (∀ x ∈ j.asked, 0 ≤ x ∧ x ≤ s - 1) ∧ j.asked.Pairwise (· < ·)
  tell : j.state = 3 ↔ j.asked ≠ []
  len : j.tasks.length ≤ 10
  tks : ∀ t ∈ j.tasks, 1 ≤ t.ask ∧ t.ask ≤ j.asks ∧ tkOK nl t = true
  inc : j.tasks.Pairwise (fun a b => a.ask < b.ask)
  last : LastOK (j.state = 1) j.tasks
theorem jok_iff {s nl : Int} {j : JbV} : jbOK s nl j = true ↔ JOK s nl j := by
  simp only [jbOK, tksOK, Bool.and_eq_true, inR, decide_eq_true_eq, beq_iff_eq]
  rw [rise_iff, tks_iff]
  constructor
  · rintro ⟨⟨⟨⟨⟨h1, h2⟩, h3⟩, h4⟩, h5⟩, h6, h7, h8, h9⟩
    refine ⟨h1, h2, h3, h4, ?_, h6, h7, h8, h9⟩
    have e : decide (0 < j.asked.length) = decide (j.asked ≠ []) := by
      cases j.asked <;> simp
    rw [e] at h5
    by_cases hs : j.state = 3 <;> by_cases ha : j.asked = [] <;> simp_all
  · rintro ⟨h1, h2, h3, h4, h5, h6, h7, h8, h9⟩
    refine ⟨⟨⟨⟨⟨h1, h2⟩, h3⟩, h4⟩, ?_⟩, h6, h7, h8, h9⟩
    have e : decide (0 < j.asked.length) = decide (j.asked ≠ []) := by
      cases j.asked <;> simp
    rw [e]
    by_cases hs : j.state = 3 <;> by_cases ha : j.asked = [] <;> simp_all
/-- What a desk may be, in words. -/
structure DOK (s nl next : Int) (js : List JbV) : Prop where
  nx : 1 ≤ next ∧ next ≤ 1048577
  len : js.length ≤ 6
  ok : ∀ j ∈ js, 1 ≤ j.n ∧ j.n ≤ next - 1 ∧ JOK s nl j
  inc : js.Pairwise (fun a b => a.n < b.n)
theorem dok_iff {s nl next : Int} {js : List JbV} : (inR next 1 1048577 = true ∧ jbsOK s nl next js = true) ↔ DOK s nl next js := by
  simp only [jbsOK, Bool.and_eq_true, inR, decide_eq_true_eq]
  rw [jbs_iff]
  constructor
  · rintro ⟨h1, h2, h3, h4⟩
    exact ⟨h1, h2, fun j hj => ⟨(h3 j hj).1, (h3 j hj).2.1, jok_iff.1 (h3 j hj).2.2⟩, h4⟩
  · rintro ⟨h1, h2, h3, h4⟩
    exact ⟨h1, h2, fun j hj => ⟨(h3 j hj).1, (h3 j hj).2.1, jok_iff.2 (h3 j hj).2.2⟩, h4⟩
theorem DOK.get {s nl next : Int} {js : List JbV} (h : DOK s nl next js) {i : Nat} (hi : i < js.length) : 1 ≤ (js.getD i default).n ∧ (js.getD i default).n ≤ next - 1 ∧ JOK s nl (js.getD i default) := h.ok _ (mem_at hi)
theorem mem_set {α : Type} {l : List α} {i : Nat} {x y : α} (h : y ∈ l.set i x) : y ∈ l ∨ y = x := List.mem_or_eq_of_mem_set h
theorem pair_set {α : Type} {R : Int → Int → Prop} {f : α → Int} {d : α} : ∀ {l : List α} {i : Nat} {x : α}, l.Pairwise (fun a b => R (f a) (f b)) → f x = f (l.getD i d) → i < l.length → (l.set i x).Pairwise (fun a b => R (f a) (f b))
  | [], i, x, h, e, hi => by simp at hi
  | a :: l, 0, x, h, e, hi => by
    simp only [List.set_cons_zero, List.pairwise_cons, List.getD_cons_zero] at h e ⊢
    rw [e]
    exact h
  | a :: l, i + 1, x, h, e, hi => by
    simp only [List.set_cons_succ, List.pairwise_cons, List.getD_cons_succ] at h e ⊢
    refine ⟨fun b hb => ?_, pair_set (d := d) h.2 e (by simpa using hi)⟩
    rcases mem_set hb with hb | rfl
    · exact h.1 b hb
    · rw [e]
      apply h.1
      have : i < l.length := by simpa using hi
      simp [List.getD, this]
theorem DOK.set {s nl next : Int} {js : List JbV} (h : DOK s nl next js) {i : Nat} (hi : i < js.length) {j : JbV} (hn : j.n = (js.getD i default).n) (hj : JOK s nl j) : DOK s nl next (js.set i j) := by
  refine ⟨h.nx, by simpa using h.len, fun x hx => ?_, pair_set (R := (· < ·)) (f := JbV.n) (d := default) h.inc hn hi⟩
  rcases mem_set hx with hx | rfl
  · exact h.ok x hx
  · have := h.get hi
    rw [hn]
    exact ⟨this.1, this.2.1, hj⟩
theorem DOK.keep {s nl next : Int} {js : List JbV} (h : DOK s nl next js) (n : Int) : DOK s nl next (kept n js) := by
  refine ⟨h.nx, Nat.le_trans (List.length_filter_le _ _) h.len, fun x hx => h.ok x (List.mem_filter.1 hx).1, h.inc.sublist List.filter_sublist⟩
theorem JOK.done {s nl : Int} {j : JbV} (h : JOK s nl j) (hs : j.state ≠ 1 ∨ waitB j = false) : ∀ t ∈ j.tasks, t.done = true := by
  have key : ∀ (l : List TkV), LastOK (j.state = 1) l → (j.state ≠ 1 ∨ l = [] ∨ (l.getD (l.length - 1) default).done = true) → ∀ t ∈ l, t.done = true := by
    intro l
    induction l with
    | nil => intro _ _ t ht; cases ht
    | cons a r ih =>
      intro h1 h2 t ht
      simp only [LastOK] at h1
      have ha : a.done = true := by
        rcases h1.1 with h3 | ⟨h3, h4⟩
        · exact h3
        · subst h3
          rcases h2 with h5 | h5 | h5
          · exact absurd h4 h5
          · cases h5
          · simpa using h5
      rcases List.mem_cons.1 ht with rfl | ht
      · exact ha
      · refine ih h1.2 ?_ t ht
        rcases h2 with h5 | h5 | h5
        · exact Or.inl h5
        · cases h5
        · cases r with
          | nil => exact Or.inr (Or.inl rfl)
          | cons b r =>
            refine Or.inr (Or.inr ?_)
            simpa using h5
  refine key j.tasks h.last ?_
  rcases hs with h1 | h1
  · exact Or.inl h1
  · unfold waitB at h1
    cases hl : j.tasks with
    | nil => exact Or.inr (Or.inl rfl)
    | cons a r =>
      rw [hl] at h1
      simp at h1
      exact Or.inr (Or.inr (by simpa using h1))
theorem last_all {one : Prop} : ∀ {l : List TkV}, (∀ t ∈ l, t.done = true) → LastOK one l
  | [], _ => trivial
  | a :: r, h => ⟨Or.inl (h a (List.mem_cons_self ..)), last_all (fun t ht => h t (List.mem_cons_of_mem _ ht))⟩
theorem last_push {one : Prop} (h1 : one) : ∀ {l : List TkV} {t : TkV}, (∀ t ∈ l, t.done = true) → LastOK one (l ++ [t])
  | [], t, _ => ⟨Or.inr ⟨rfl, h1⟩, trivial⟩
  | a :: r, t, h => ⟨Or.inl (h a (List.mem_cons_self ..)), last_push h1 (fun t ht => h t (List.mem_cons_of_mem _ ht))⟩
theorem hands_rise {C : Cx} (ts : List TkV) (hs : 0 ≤ C.s) : (∀ x ∈ C.hands ts, 0 ≤ x ∧ x ≤ C.s - 1) ∧ (C.hands ts).Pairwise (· < ·) := by
  unfold Cx.hands handsOf handsTo
  refine ⟨fun x hx => ?_, ?_⟩
  · have := (List.mem_filter.1 hx).1
    obtain ⟨k, hk, rfl⟩ := List.mem_map.1 this
    have := List.mem_range.1 hk
    omega
  · refine List.Pairwise.sublist List.filter_sublist ?_
    rw [List.pairwise_map]
    exact List.pairwise_lt_range.imp (fun h => by omega)
variable {C : Cx} {t : Tn} {nl : Int}
theorem good_rep (h : DOK C.s nl t.next t.js) (a b c d e : Int) : DOK C.s nl (t.rep C a b c d e).next (t.rep C a b c d e).js := h
theorem good_ended (h : DOK C.s nl t.next t.js) (n : Int) (ts : List TkV) : DOK C.s nl (t.ended C n ts).next (t.ended C n ts).js := h.keep n
theorem good_begun (h : DOK C.s nl t.next t.js) (room : Int) : DOK C.s nl (t.begun C room).next (t.begun C room).js := by
  unfold Tn.begun
  split
  · exact h
  · rename_i hf
    simp only [Bool.or_eq_true, decide_eq_true_eq, not_or] at hf
    refine ⟨⟨by simp only []; have := h.nx.1; omega, by simp only []; omega⟩, by simp only [List.length_append, List.length_cons, List.length_nil]; omega, fun j hj => ?_, ?_⟩
    · simp only [] at hj ⊢
      rcases List.mem_append.1 hj with hj | hj
      · have := h.ok j hj
        exact ⟨this.1, by omega, this.2.2⟩
      · simp at hj
        subst hj
        have := h.nx
        exact ⟨by simp [newJob]; omega, by simp [newJob], by simp [newJob], by simp [newJob], by simp [newJob], by simp [newJob], by simp [newJob], by simp [newJob], by simp [newJob], by simp [newJob], by simp [newJob, LastOK]⟩
    · simp only []
      rw [List.pairwise_append]
      refine ⟨h.inc, by simp, fun a ha b hb => ?_⟩
      simp at hb
      subst hb
      have := (h.ok a ha).2.1
      simp only [newJob]
      omega
theorem good_asked (h : DOK C.s nl t.next t.js) {i : Nat} (hi : i < t.js.length) (tk : TkV) (m : MV) (hst : (t.js.getD i default).state = 1) (hw : waitB (t.js.getD i default) = false) (hl : (t.js.getD i default).tasks.length < 10) (ha : (t.js.getD i default).asks < 1048576) (hk : tkOK nl { tk with ask := (t.js.getD i default).asks + 1 } = true) : DOK C.s nl (t.asked i tk m).next (t.asked i tk m).js := by
  have hj := (h.get hi).2.2
  have hd := hj.done (Or.inr hw)
  refine DOK.set h hi rfl ⟨by simp [askJob], hj.st, by simp only [askJob]; have := hj.asks; omega, hj.rise, hj.tell, by simp only [askJob, List.length_append, List.length_cons, List.length_nil]; omega, fun x hx => ?_, ?_, ?_⟩
  · simp only [askJob] at hx ⊢
    rcases List.mem_append.1 hx with hx | hx
    · have := hj.tks x hx
      exact ⟨this.1, by omega, this.2.2⟩
    · simp at hx
      subst hx
      have := hj.asks
      exact ⟨by show 1 ≤ (t.js.getD i default).asks + 1; omega, Int.le_refl _, hk⟩
  · simp only [askJob]
    rw [List.pairwise_append]
    refine ⟨hj.inc, by simp, fun a ha' b hb => ?_⟩
    simp at hb
    subst hb
    have := (hj.tks a ha').2.1
    show a.ask < (t.js.getD i default).asks + 1
    omega
  · simp only [askJob]
    exact last_push hst hd
theorem good_comm (h : DOK C.s nl t.next t.js) (hs : 0 ≤ C.s) {i : Nat} (hi : i < t.js.length) (hd : ∀ x ∈ (t.js.getD i default).tasks, x.done = true) : DOK C.s nl (t.comm C i).next (t.comm C i).js := by
  have hj := (h.get hi).2.2
  unfold Tn.comm
  split
  · exact h.keep _
  · rename_i hne
    refine DOK.set h hi rfl ⟨by simp [teltJob], by simp [teltJob], hj.asks, ?_, by simp [teltJob]; exact hne, hj.len, hj.tks, hj.inc, last_all hd⟩
    exact hands_rise _ hs
theorem good_check (h : DOK C.s nl t.next t.js) (hs : 0 ≤ C.s) {i : Nat} (hi : i < t.js.length) (hst : (t.js.getD i default).state = 1) (hw : waitB (t.js.getD i default) = false) : DOK C.s nl (t.check C i).next (t.check C i).js := by
  have hj := (h.get hi).2.2
  have hd := hj.done (Or.inr hw)
  unfold Tn.check
  split
  · exact good_comm (t := { t with sure := (t.js.getD i default).n }) h hs hi hd
  · have hna : (t.js.getD i default).asked = [] := by
      have := hj.tell
      rw [hst] at this
      by_cases he : (t.js.getD i default).asked = []
      · exact he
      · have := this.2 he; omega
    refine DOK.set h hi rfl ⟨by simp, by simp, hj.asks, hj.rise, ⟨fun e => by simp at e, fun e => absurd hna e⟩, hj.len, hj.tks, hj.inc, last_all hd⟩
end Go.Proofs.Ytfhciplckjkflaa.Co
/- Whatever is called and heard, a desk stays one that may be: calls and messages. -/
namespace Go.Proofs.Ytfhciplckjkflaa.Co
open Go.Proofs.Ytfhciplckjkflaa.St (idxI idxI_lt)
open Go.Proofs.Ytfhciplckjkflaa.Se (seesB seesErr)
set_option linter.unusedVariables false

theorem sees_range {C : Cx} {b : Int} (h : C.sees b = true) : 0 ≤ b ∧ b < (C.ls.length : Int) := by
  unfold Cx.sees seesB at h
  split at h
  · rename_i h1
    unfold seesErr at h1
    split at h1
    · split at h1
      · rename_i h2
        simp only [Bool.and_eq_true] at h2
        exact Se.plc_true h2.2
      · omega
    · rename_i h2; exact absurd h1 h2
  · cases h
theorem rf_parts {s : Int} {ls : List (Int × Int)} {p l me next : Int} {js : List JbV} (h : rfErr s ls p l me next js = 0) : (1 ≤ s ∧ s ≤ 4) ∧ (0 ≤ l ∧ l ≤ (ls.length : Int) - 1) ∧ (0 ≤ me ∧ me ≤ s - 1) ∧ cfgFault s ls p = 0 ∧ DOK s ls.length next js := by
  have h1 := dk_zero (rf_zero h)
  have hd := rf_zero h
  unfold rfErr at h
  rw [if_pos hd] at h
  split at h
  · rename_i h2
    split at h
    · rename_i h3
      simp only [inR, decide_eq_true_eq] at h2 h3
      exact ⟨cfg_range h1.1, h2, h3, h1.1, dok_iff.1 h1.2⟩
    · omega
  · omega
theorem rf_of {s : Int} {ls : List (Int × Int)} {p l me next : Int} {js : List JbV} (hc : cfgFault s ls p = 0) (hl : 0 ≤ l ∧ l ≤ (ls.length : Int) - 1) (hm : 0 ≤ me ∧ me ≤ s - 1) (hd : DOK s ls.length next js) : rfErr s ls p l me next js = 0 := by
  have h1 := dok_iff.2 hd
  have h2 : dkErr s ls p next js = 0 := by
    unfold dkErr
    rw [if_pos hc, h1.1, h1.2]
    rfl
  unfold rfErr
  rw [if_pos h2, if_pos (by simp [inR, hl]), if_pos (by simp [inR, hm])]
theorem dok_bare {s nl next : Int} {js : List JbV} (h : DOK s nl next js) : DOK s nl next (js.map JbV.bare) := by
  have h1 := dok_iff.2 h
  refine dok_iff.1 ⟨h1.1, ?_⟩
  have h2 := h1.2
  unfold jbsOK at h2 ⊢
  rw [jbs_bare, List.length_map]
  exact h2
theorem idx_get {n : Int} {js : List JbV} (h : ¬ idxI (isN n) js = -1) : (idxI (isN n) js).toNat < js.length ∧ (js.getD (idxI (isN n) js).toNat default).n = n := by
  have h1 := idxI_lt (p := isN n) (l := js)
  refine ⟨by omega, ?_⟩
  unfold idxI at h ⊢
  cases hf : js.findIdx? (isN n) with
  | none => rw [hf] at h; simp at h
  | some k =>
    rw [List.findIdx?_eq_some_iff_getElem] at hf
    obtain ⟨hk, hp, _⟩ := hf
    have : (js.getD k default) = js[k] := by simp [List.getD, hk]
    simp only [Int.toNat_natCast]
    rw [this]
    simpa [isN] using hp
theorem good_call {C : Cx} {next : Int} {js : List JbV} {room : Int} {x : ClV} (h : clErr C next js x.kind = 0) : DOK C.s C.ls.length (CallAns C next js room x).next (CallAns C next js room x).js := by
  have hE := h
  unfold clErr at h
  split at h
  · rename_i hr
    obtain ⟨hs, hl, hm, hc, hd⟩ := rf_parts hr
    have hd2 : DOK C.s C.ls.length (tn0 next js).next (tn0 next js).js := dok_bare hd
    have hkr : 1 ≤ x.kind ∧ x.kind ≤ 5 := by
      split at h
      · rename_i h2; simpa [inR] using h2
      · omega
    unfold CallAns
    rw [if_pos hE]
    generalize tn0 next js = t at hd2
    unfold Tn.call
    split
    · exact good_begun hd2 room
    · split
      · exact good_rep hd2 ..
      · rename_i hk1 hix
        obtain ⟨hi, hn⟩ := idx_get hix
        generalize (idxI (isN x.n) t.js).toNat = i at hi hn
        split
        · exact good_rep hd2 ..
        · rename_i he
          simp only [ne_eq, Decidable.not_not] at he
          have hst : (t.js.getD i default).state = 1 ∧ waitB (t.js.getD i default) = false := by
            unfold askErr at he
            split at he
            · rename_i h1
              split at he
              · omega
              · rename_i h2; exact ⟨h1, by simpa using h2⟩
            · omega
          have htk : x.kind = 2 ∨ x.kind = 3 → (0 ≤ x.key ∧ x.key ≤ 7) ∧ (0 ≤ x.value ∧ x.value ≤ 1073741824) ∧ (x.kind = 2 → C.sees x.label = true) ∧ (t.js.getD i default).tasks.length < 10 ∧ (t.js.getD i default).asks < 1048576 := fun h23 => by
            unfold askErr at he
            rw [if_pos hst.1, hst.2, if_neg (by decide)] at he
            rw [if_pos (by simpa using h23)] at he
            split at he
            · rename_i h1
              simp only [Bool.and_eq_true, inR, decide_eq_true_eq] at h1
              split at he
              · omega
              · rename_i h2
                split at he
                · omega
                · rename_i h3
                  simp only [Bool.or_eq_true, decide_eq_true_eq, not_or] at h3
                  refine ⟨h1.1, h1.2, fun e => ?_, by omega, by omega⟩
                  rw [e] at h2
                  simpa using h2
            · omega
          split
          · rename_i h2
            have h3 := htk (Or.inl h2)
            have h4 := sees_range (h3.2.2.1 h2)
            exact good_asked hd2 hi _ _ hst.1 hst.2 h3.2.2.2.1 h3.2.2.2.2 (by simp [tkOK, inR, h3.1]; omega)
          · split
            · rename_i h2
              have h3 := htk (Or.inr h2)
              exact good_asked hd2 hi _ _ hst.1 hst.2 h3.2.2.2.1 h3.2.2.2.2 (by simp [tkOK, inR, h3.1, h3.2.1]; omega)
            · split
              · exact good_check hd2 (by omega) hi hst.1 hst.2
              · exact good_rep (good_ended hd2 _ _) ..
  · rename_i h2; exact absurd h h2
theorem msg_parts {s : Int} {ls : List (Int × Int)} {p : Int} {m : MV} (h : msgFault s ls p m = 0) : (0 ≤ m.value ∧ m.value ≤ 1073741824) ∧ (0 ≤ m.version ∧ m.version ≤ 1048576) ∧ (0 ≤ m.key ∧ m.key ≤ 7) := by
  unfold msgFault at h
  split at h
  · rename_i h1; exact absurd h h1
  · split at h
    · omega
    · split at h
      · omega
      · rename_i h3
        simp only [Bool.not_eq_false] at h3
        simp only [msgRange, partsOK, MV.parts, topL, inTops, Bool.and_eq_true, inR, decide_eq_true_eq] at h3
        exact ⟨h3.2.1.1.2.2.1, h3.2.1.1.2.2.2.1, h3.2.1.1.2.1⟩
variable {C : Cx} {t : Tn} {nl : Int}
theorem last_mem {j : JbV} (h : waitB j = true) : lastT j ∈ j.tasks ∧ 0 < j.tasks.length := by
  unfold waitB at h
  simp only [Bool.and_eq_true, decide_eq_true_eq] at h
  refine ⟨?_, h.1⟩
  unfold lastT
  exact mem_at (by omega)
theorem last_set {one : Prop} : ∀ {l : List TkV} {x : TkV}, LastOK one l → x.done = true → LastOK one (l.set (l.length - 1) x)
  | [], x, h, hx => h
  | [a], x, h, hx => ⟨Or.inl hx, trivial⟩
  | a :: b :: r, x, h, hx => by
    have h1 := last_set (l := b :: r) h.2 hx
    simp only [List.length_cons, Nat.add_sub_cancel] at h1 ⊢
    rw [List.set_cons_succ]
    refine ⟨?_, h1⟩
    rcases h.1 with h2 | ⟨h2, _⟩
    · exact Or.inl h2
    · cases h2
theorem last_take {one : Prop} : ∀ {l : List TkV}, LastOK one l → ∀ t ∈ l.take (l.length - 1), t.done = true
  | [], _, t, ht => by simp at ht
  | [a], _, t, ht => by simp at ht
  | a :: b :: r, h, t, ht => by
    simp only [List.length_cons, Nat.add_sub_cancel, List.take_succ_cons] at ht
    rcases List.mem_cons.1 ht with rfl | ht
    · rcases h.1 with h2 | ⟨h2, _⟩
      · exact h2
      · cases h2
    · exact last_take (l := b :: r) h.2 t (by simpa using ht)
theorem good_answered (h : DOK C.s nl t.next t.js) {i : Nat} (hi : i < t.js.length) {m : MV} (hv : 0 ≤ m.value ∧ m.value ≤ 1073741824) (hw : 0 ≤ m.version ∧ m.version ≤ 1048576) : DOK C.s nl (t.answered C i m).next (t.answered C i m).js := by
  have hj := (h.get hi).2.2
  unfold Tn.answered
  split
  · rename_i hg
    simp only [Bool.and_eq_true] at hg
    obtain ⟨hlm, hlen⟩ := last_mem hg.1
    have hage : JOK C.s nl { t.js.getD i default with age := 0 } := ⟨by simp, hj.st, hj.asks, hj.rise, hj.tell, hj.len, hj.tks, hj.inc, hj.last⟩
    split
    · have hT := hj.tks _ hlm
      refine DOK.set h hi rfl ⟨by simp, hj.st, hj.asks, hj.rise, hj.tell, by simpa using hj.len, fun x hx => ?_, ?_, ?_⟩
      · rcases mem_set hx with hx | rfl
        · exact hj.tks x hx
        · refine ⟨hT.1, hT.2.1, ?_⟩
          have h9 := hT.2.2
          simp only [tkOK, ansTask, Bool.and_eq_true, inR, decide_eq_true_eq] at h9 ⊢
          refine ⟨⟨⟨⟨decide_eq_true h9.1.1.1.1, decide_eq_true h9.1.1.1.2⟩, ?_⟩, ?_⟩, by simp⟩
          · split
            · exact decide_eq_true h9.1.1.2
            · exact decide_eq_true hv
          · split
            · exact decide_eq_true h9.1.2
            · exact decide_eq_true hw
      · exact pair_set (R := (· < ·)) (f := TkV.ask) (d := default) hj.inc (by rfl) (by omega)
      · exact last_set hj.last rfl
    · split
      · exact good_ended (t := { t.rep C _ _ _ _ _ with js := t.js.set i { t.js.getD i default with age := 0 } }) (DOK.set h hi rfl hage) _ _
      · refine DOK.set h hi rfl ⟨by simp, hj.st, hj.asks, hj.rise, hj.tell, by simp only [List.length_take]; have := hj.len; omega, fun x hx => hj.tks x (List.mem_of_mem_take hx), hj.inc.sublist (List.take_sublist _ _), last_all (last_take hj.last)⟩
  · exact h
theorem good_sured (h : DOK C.s nl t.next t.js) (hs : 0 ≤ C.s) {i : Nat} (hi : i < t.js.length) {m : MV} : DOK C.s nl (t.sured C i m).next (t.sured C i m).js := by
  have hj := (h.get hi).2.2
  unfold Tn.sured
  split
  · rename_i hg
    simp only [Bool.and_eq_true, decide_eq_true_eq] at hg
    have hst := hg.1.1
    have hd := hj.done (Or.inl (by omega))
    split
    · have hM : ∀ x ∈ (t.js.getD i default).tasks.map (mark m), ∃ y ∈ (t.js.getD i default).tasks, x.ask = y.ask ∧ x.done = true ∧ (tkOK nl y = true → tkOK nl x = true) := fun x hx => by
        obtain ⟨y, hy, rfl⟩ := List.mem_map.1 hx
        have hyd := hd y hy
        refine ⟨y, hy, ?_, ?_, fun h9 => ?_⟩
        · unfold mark; split <;> rfl
        · unfold mark; split <;> exact hyd
        · unfold mark
          split
          · simp only [tkOK, Bool.and_eq_true] at h9 ⊢
            exact ⟨h9.1, by simp [hyd]⟩
          · exact h9
      have hJ : JOK C.s nl { t.js.getD i default with tasks := (t.js.getD i default).tasks.map (mark m) } := by
        refine ⟨hj.age, hj.st, hj.asks, hj.rise, hj.tell, by simpa using hj.len, fun x hx => ?_, ?_, last_all fun x hx => ?_⟩
        · obtain ⟨y, hy, e1, e2, e3⟩ := hM x hx
          have := hj.tks y hy
          rw [e1]
          exact ⟨this.1, this.2.1, e3 this.2.2⟩
        · rw [List.pairwise_map]
          refine hj.inc.imp (fun {a b} hab => ?_)
          have e : ∀ y, (mark m y).ask = y.ask := fun y => by unfold mark; split <;> rfl
          rw [e, e]
          exact hab
        · obtain ⟨y, hy, e1, e2, e3⟩ := hM x hx
          exact e2
      have hD := DOK.set h hi (j := { t.js.getD i default with tasks := (t.js.getD i default).tasks.map (mark m) }) rfl hJ
      split
      · refine good_comm (t := { t with js := t.js.set i { t.js.getD i default with tasks := (t.js.getD i default).tasks.map (mark m) } }) hD hs (by simpa using hi) ?_
        have e9 : (t.js.set i { t.js.getD i default with tasks := (t.js.getD i default).tasks.map (mark m) }).getD i default = { t.js.getD i default with tasks := (t.js.getD i default).tasks.map (mark m) } := set_getD _ _ _ hi
        simp only [e9]
        intro x hx
        obtain ⟨y, hy, e1, e2, e3⟩ := hM x hx
        exact e2
      · exact hD
    · exact good_ended (good_rep h ..) _ _
  · exact h
theorem good_acked (h : DOK C.s nl t.next t.js) {i : Nat} (hi : i < t.js.length) {m : MV} : DOK C.s nl (t.acked i m).next (t.acked i m).js := by
  have hj := (h.get hi).2.2
  unfold Tn.acked
  split
  · rename_i hst
    split
    · rename_i hk
      have h1 : (kept (t.js.getD i default).n (t.js.set i { t.js.getD i default with asked := [] })) = kept (t.js.getD i default).n t.js := by
        unfold kept keep
        have : ∀ (l : List JbV) (k : Nat) (y : JbV), y.n = (l.getD k default).n → k < l.length → (l.set k y).filter (fun x => !isN (l.getD k default).n x) = l.filter (fun x => !isN (l.getD k default).n x) := by
          intro l
          induction l with
          | nil => intro k y e hk; simp at hk
          | cons a r ih =>
            intro k y e hk
            cases k with
            | zero =>
              simp only [List.getD_cons_zero] at e ⊢
              simp [List.filter, isN, e]
            | succ k =>
              simp only [List.set_cons_succ, List.getD_cons_succ, List.filter_cons] at e ⊢
              rw [ih k y e (by simpa using hk)]
        exact this _ _ _ rfl hi
      simp only [h1]
      exact h.keep _
    · rename_i hk
      refine DOK.set h hi rfl ⟨hj.age, hj.st, hj.asks, ?_, ?_, hj.len, hj.tks, hj.inc, hj.last⟩
      · exact ⟨fun x hx => hj.rise.1 x (List.mem_filter.1 hx).1, hj.rise.2.sublist List.filter_sublist⟩
      · exact ⟨fun _ => hk, fun _ => hst⟩
  · exact h
theorem good_hear {C : Cx} {next : Int} {js : List JbV} {m : MV} (h : hrErr C next js m = 0) : DOK C.s C.ls.length (HearAns C next js m).next (HearAns C next js m).js := by
  have hE := h
  have hz := hr_zero h
  have hmf : msgFault C.s C.ls C.p m = 0 := by
    unfold hrErr at h
    rw [if_pos hz.1] at h
    split at h
    · assumption
    · rename_i h2; exact absurd h h2
  obtain ⟨hs, hl, hm, hc, hd⟩ := rf_parts hz.1
  have hp := msg_parts hmf
  have hd2 : DOK C.s C.ls.length (tn0 next js).next (tn0 next js).js := dok_bare hd
  unfold HearAns
  rw [if_pos hE]
  generalize tn0 next js = t at hd2
  unfold Tn.heard
  split
  · split
    · exact hd2
    · unfold Tn.doubted
      split
      · exact hd2
      · exact hd2
  · split
    · exact hd2
    · rename_i hix
      obtain ⟨hi, hn⟩ := idx_get hix
      split
      · exact good_answered hd2 hi hp.1 hp.2.1
      · split
        · exact good_sured hd2 (by omega) hi
        · exact good_acked hd2 hi
end Go.Proofs.Ytfhciplckjkflaa.Co
/- Desks in memory of their own. -/
namespace Go.Proofs.Ytfhciplckjkflaa.Co
open Go.ChangeShapes Go.WideShapes Go.ChangeAt Go.RowKit
open Go.Proofs.Ytfhciplckjkflaa.St (BoxN boxn_new own_below grown_setCell IsRow Elem flat flat_append own_isRow idxI idxI_lt)
set_option linter.unusedVariables false

theorem DeskAt.below {X X' : World} {B : Nat} {a : Option Addr} {n c : Nat} {js : List JbV} {ix : List (Nat × Nat)} {more : List Rw} (h : DeskAt X B a n c js ix more) (hb : Below X.heap.size X X') : DeskAt X' B a n c js ix more := ⟨h.own.below hb, h.jobs, h.len, h.fit, h.inn⟩
theorem DeskAt.base {X : World} {B B' : Nat} {a : Option Addr} {n c : Nat} {js : List JbV} {ix : List (Nat × Nat)} {more : List Rw} (h : DeskAt X B' a n c js ix more) (hb : B ≤ B') : DeskAt X B a n c js ix more := ⟨h.own.base hb, h.jobs, h.len, h.fit, h.inn⟩
theorem DeskAt.aside {X : World} {B r : Nat} {a : Option Addr} {n c : Nat} {js : List JbV} {ix : List (Nat × Nat)} {more : List Rw} (h : DeskAt X B a n c js ix more) (hr : r < B) (j : Nat) (v : Value) : DeskAt (X.setCell ⟨r, j, none⟩ v) B a n c js ix more := by
  refine ⟨h.own.aside (fun i s e e2 => ?_) j v, h.jobs, h.len, h.fit, h.inn⟩
  have := ((h.own.own i s e).lt _ e2).1
  omega
theorem DeskAt.isJobs {X : World} {B : Nat} {a : Option Addr} {n c : Nat} {js : List JbV} {ix : List (Nat × Nat)} {more : List Rw} (h : DeskAt X B a n c js ix more) : IsJobs X a n c js := by
  have o0 := h.own.own 0 (jobRow a n c js) rfl
  refine ⟨(own_isRow jb_len o0 h.len).1, fun j hj => ?_⟩
  obtain ⟨i, hi, rfl⟩ := List.getElem_of_mem hj
  obtain ⟨x, ex, e1, e2⟩ := h.jobs.at hi
  have e3 : js.getD i default = js[i] := by simp [List.getD, hi]
  rw [e3] at e1 e2
  have o1 := h.own.own (x.1 + 1) _ (by simpa using e1)
  have o2 := h.own.own (x.2 + 1) _ (by simpa using e2)
  exact ⟨(own_isRow tk_len o1 (own_count tk_len (by decide) o1)).1, (own_isRow in_len o2 (own_count in_len (by decide) o2)).1⟩
theorem Live.desk {B : Nat} {u : World} {v : CkV} {ix : List (Nat × Nat)} {more : List Rw} {t : Tn} (h : Live B u v ix more t) : DeskAt u B v.ja v.jl v.jc v.js ix more := by
  refine ⟨⟨fun i r e => ?_, fun i j r s e1 e2 hij => ?_⟩, h.jobs, h.lens.1, fun j hj => ?_, h.jobs.inn⟩
  · match i, e with
    | 0, e => exact h.own.own 0 r e
    | i + 1, e => exact h.own.own (4 + i) r (more_get (by simpa using e))
  · match i, e1, j, e2 with
    | 0, e1, 0, e2 => exact absurd rfl hij
    | 0, e1, j + 1, e2 => exact h.own.ap 0 (4 + j) r s e1 (more_get (by simpa using e2)) (by omega)
    | i + 1, e1, 0, e2 => exact h.own.ap (4 + i) 0 r s (more_get (by simpa using e1)) e2 (by omega)
    | i + 1, e1, j + 1, e2 => exact h.own.ap (4 + i) (4 + j) r s (more_get (by simpa using e1)) (more_get (by simpa using e2)) (by omega)
  · obtain ⟨i, hi, rfl⟩ := List.getElem_of_mem hj
    obtain ⟨x, ex, e1, e2⟩ := h.jobs.at hi
    have e3 : v.js.getD i default = v.js[i] := by simp [List.getD, hi]
    rw [e3] at e1 e2
    have o1 := h.own.own _ _ (more_get e1)
    have o2 := h.own.own _ _ (more_get e2)
    exact ⟨own_count tk_len (by decide) o1, own_count in_len (by decide) o2⟩
/-- A desk in memory of its own, as plain data: D is its value, (nx, bs) what it says. -/
def DkIs (B : Nat) (w : World) (D : Value) (nx : Int) (bs : List JbV) : Prop := ∃ (a : Option Addr) (c : Nat) (js : List JbV) (ix : List (Nat × Nat)) (more : List Rw), D = .agg #[.int .i64 nx, .slice a bs.length c] ∧ DeskAt w B a bs.length c js ix more ∧ js.map JbV.bare = bs
theorem dk_new (B : Nat) (w : World) (nx : Int) : DkIs B w (.agg #[.int .i64 nx, .slice none 0 0]) nx [] := ⟨none, 0, [], [], [], rfl, deskAt_nil w B, rfl⟩
theorem Live.dk {B : Nat} {u : World} {v : CkV} {ix : List (Nat × Nat)} {more : List Rw} {t : Tn} (h : Live B u v ix more t) : DkIs B u (.agg #[.int .i64 v.next, .slice v.ja v.jl v.jc]) t.next t.js := by
  refine ⟨v.ja, v.jc, v.js, ix, more, ?_, ?_, h.js.1⟩
  · rw [h.nums.1, h.js.2]
  · rw [← h.js.2]; exact h.desk
theorem hr_bare (C : Cx) (next : Int) (js : List JbV) (m : MV) : hrErr C next (js.map JbV.bare) m = hrErr C next js m := by
  unfold hrErr
  rw [rf_bare]
theorem hans_bare (C : Cx) (next : Int) (js : List JbV) (m : MV) : HearAns C next (js.map JbV.bare) m = HearAns C next js m := by
  unfold HearAns
  rw [hr_bare, tn0_bare]
theorem call_dk (s p : Int) (a : Option Addr) (len cap : Nat) (ls : List (Int × Int)) (l me nx : Int) (da : Option Addr) (dc : Nat) (bs : List JbV) (room : Int) (x : ClV) (w : World) {B : Nat} (hl : IsLabs w a len cap ls) {js : List JbV} {ix : List (Nat × Nat)} {more : List Rw} (hD : DeskAt w B da bs.length dc js ix more) (hb : js.map JbV.bare = bs) :
    Calls Try.prog 6 #[.agg #[.int .i64 s, .slice a len cap, .int .i64 p], .int .i64 l, .int .i64 me, .agg #[.int .i64 nx, .slice da bs.length dc], .int .i64 room, x.val] w fun e w' => ∃ (v' : CkV) (ix' : List (Nat × Nat)) (more' : List Rw), e = .returned (.tuple #[v'.turn, .int .i64 (clErr ⟨s, ls, p, l, me⟩ nx bs x.kind)]) ∧ Live w.heap.size w' v' ix' more' (CallAns ⟨s, ls, p, l, me⟩ nx bs room x) ∧ Below w.heap.size w w' := by
  refine (call_any s p a len cap ls l me nx da bs.length dc js room x w hl hD.isJobs).mono ?_
  rintro e w' ⟨tv, rfl, hT⟩
  obtain ⟨v', ix', more', rfl, h1, h2⟩ := turn_live hT
  rw [← hb, cl_bare, ans_bare]
  exact ⟨v', ix', more', rfl, h1, h2⟩
theorem tk_bare (C : Cx) (next : Int) (js : List JbV) : TickAns C next (js.map JbV.bare) = TickAns C next js := by
  unfold TickAns
  rw [rf_bare, tn0_bare, List.map_map]
  rfl
theorem tick_dk (s p : Int) (a : Option Addr) (len cap : Nat) (ls : List (Int × Int)) (l me nx : Int) (da : Option Addr) (dc : Nat) (bs : List JbV) (w : World) {B : Nat} (hl : IsLabs w a len cap ls) {js : List JbV} {ix : List (Nat × Nat)} {more : List Rw} (hD : DeskAt w B da bs.length dc js ix more) (hb : js.map JbV.bare = bs) :
    Calls Try.prog 10 #[.agg #[.int .i64 s, .slice a len cap, .int .i64 p], .int .i64 l, .int .i64 me, .agg #[.int .i64 nx, .slice da bs.length dc]] w fun e w' => ∃ (v' : CkV) (ix' : List (Nat × Nat)) (more' : List Rw), e = .returned (.tuple #[v'.turn, .int .i64 (rfErr s ls p l me nx bs)]) ∧ Live w.heap.size w' v' ix' more' (TickAns ⟨s, ls, p, l, me⟩ nx bs) ∧ Below w.heap.size w w' := by
  refine (tick_coord s p a len cap ls l me nx da bs.length dc js w hl hD.isJobs).mono ?_
  rintro e w' ⟨tv, rfl, hT⟩
  obtain ⟨v', ix', more', rfl, h1, h2⟩ := turn_live hT
  rw [← hb, rf_bare, tk_bare]
  exact ⟨v', ix', more', rfl, h1, h2⟩
end Go.Proofs.Ytfhciplckjkflaa.Co
