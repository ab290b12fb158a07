/- Texts of this claim, one behind the other. -/
import Derived.Test.YtfhciplckjkflaaM27CoordTicks
import Derived.Test.YtfhciplckjkflaaM28CoordTicks
/- coord.Hear. -/
namespace Go.Proofs.Ytfhciplckjkflaa.Co
open Go.ChangeShapes Go.WideShapes Go.ChangeAt Go.RowKit
open Go.Proofs.Ytfhciplckjkflaa.St (BoxN boxn_new own_below grown_setCell IsRow Elem flat flat_append own_isRow idxI idxI_lt)
set_option linter.unusedVariables false

/-- What Hear refuses. -/
def hrErr (C : Cx) (next : Int) (js : List JbV) (m : MV) : Int :=
  if rfErr C.s C.ls C.p C.l C.me next js = 0 then (if msgFault C.s C.ls C.p m = 0 then (if ((m.dst == C.me) && (m.site == C.me)) = true then (if inR m.kind 5 9 = true then 0 else 3) else 2) else msgFault C.s C.ls C.p m) else rfErr C.s C.ls C.p C.l C.me next js
def Tn.heard (t : Tn) (C : Cx) (m : MV) : Tn :=
  if m.kind = 9 then (if idxI (isN m.num) t.js = -1 then t.told C m.num false m.frm else t.doubted C (idxI (isN m.num) t.js).toNat m)
  else if idxI (isN m.num) t.js = -1 then t
  else if m.kind = 5 ∨ m.kind = 6 then t.answered C (idxI (isN m.num) t.js).toNat m
  else if m.kind = 7 then t.sured C (idxI (isN m.num) t.js).toNat m
  else t.acked (idxI (isN m.num) t.js).toNat m
def HearAns (C : Cx) (next : Int) (js : List JbV) (m : MV) : Tn := if hrErr C next js m = 0 then (tn0 next js).heard C m else tn0 0 []
def HearIs (w w' : World) (C : Cx) (next : Int) (js : List JbV) (m : MV) (e : Ending) : Prop := ∃ tv, e = .returned (.tuple #[tv, .int .i64 (hrErr C next js m)]) ∧ TurnIs w w' tv (HearAns C next js m)
theorem hr_zero {C : Cx} {next : Int} {js : List JbV} {m : MV} (h : hrErr C next js m = 0) : rfErr C.s C.ls C.p C.l C.me next js = 0 ∧ 5 ≤ m.kind ∧ m.kind ≤ 9 := by
  unfold hrErr at h
  by_cases h1 : rfErr C.s C.ls C.p C.l C.me next js = 0
  · rw [if_pos h1] at h
    by_cases h2 : msgFault C.s C.ls C.p m = 0
    · rw [if_pos h2] at h
      by_cases h3 : ((m.dst == C.me) && (m.site == C.me)) = true
      · rw [if_pos h3] at h
        by_cases h4 : inR m.kind 5 9 = true
        · simp only [inR, decide_eq_true_eq] at h4
          exact ⟨h1, h4.1, h4.2⟩
        · rw [if_neg h4] at h; omega
      · rw [if_neg h3] at h; omega
    · rw [if_neg h2] at h; exact absurd h h2
  · rw [if_neg h1] at h; exact absurd h h1
end Go.Proofs.Ytfhciplckjkflaa.Co
/- The clerk's age: a job whose time is over ends, or is told once more. -/
namespace Go.Proofs.Ytfhciplckjkflaa.Co
open Go.ChangeShapes Go.WideShapes Go.ChangeAt Go.RowKit
open Go.Proofs.Ytfhciplckjkflaa.St (BoxN boxn_new own_below grown_setCell IsRow Elem flat flat_append own_isRow idxI idxI_lt)
set_option linter.unusedVariables false

def Tn.aged (t : Tn) (C : Cx) (i : Nat) : Tn :=
  if (t.js.getD i default).age + 1 < C.p then { t with js := t.js.set i { t.js.getD i default with age := (t.js.getD i default).age + 1 } }
  else if (t.js.getD i default).state = 3 then { t with js := t.js.set i { t.js.getD i default with age := 0 }, ms := t.ms ++ (t.js.getD i default).asked.map (decM C.me (t.js.getD i default).n true) }
  else if (t.js.getD i default).state = 2 then Tn.ended (Tn.rep { t with js := t.js.set i { t.js.getD i default with age := (t.js.getD i default).age + 1 } } C 4 (t.js.getD i default).n 0 0 14) C (t.js.getD i default).n (t.js.getD i default).tasks
  else if waitB (t.js.getD i default) = true then Tn.ended (Tn.rep { t with js := t.js.set i { t.js.getD i default with age := (t.js.getD i default).age + 1 } } C (callKind (lastT (t.js.getD i default))) (t.js.getD i default).n (lastT (t.js.getD i default)).key 0 14) C (t.js.getD i default).n (t.js.getD i default).tasks
  else Tn.ended { t with js := t.js.set i { t.js.getD i default with age := (t.js.getD i default).age + 1 } } C (t.js.getD i default).n (t.js.getD i default).tasks
set_option maxRecDepth 100000 in
set_option maxHeartbeats 8000000 in
theorem age_done {w : World} {B q : Nat} {v : CkV} {ix : List (Nat × Nat)} {more : List Rw} (X : World) (h : Clerk w X B q v ix more) (hr : v.rs = []) (ls : List (Int × Int)) {i g : Nat} (hi : i < v.jl) (eg : v.ja = some ⟨g, 0, none⟩) (hag : 0 ≤ (v.js.getD i default).age ∧ (v.js.getD i default).age ≤ 1048576) (has : (v.js.getD i default).asked.length ≤ 1048576) (hs : v.s ≤ 1048576) (hm : v.ml ≤ 1000000) (hp : v.pl ≤ 1000000) (htl : (v.js.getD i default).tl ≤ 1000000) (hL : Labs w B q v ls) :
    Calls Try.prog 37 #[.pointer (some ⟨q, 0, none⟩), .pointer (some ⟨g, i * 6, none⟩)] X fun e X' => DoneIs w X' B q v (v.tn.aged (v.cx ls) i) e := by
  have hi' : i < v.js.length := by have := h.lens.1; omega
  have HBj : Hid (v.tn.js.getD i default = (v.js.getD i default).bare) := getD_bare _ _
  have HRs0 : Hid (v.rs = []) := hr
  obtain ⟨g2, eg2, -, zg, -, hcj, hfj⟩ := h.jobAt hi
  obtain rfl := ptrEq eg eg2
  clear eg2
  have bx := h.held.box
  have zq := bx.lt
  obtain ⟨J, eJ⟩ : ∃ J, J = v.js.getD i default := ⟨_, rfl⟩
  have HJ : Hid (J = v.js.getD i default) := eJ
  rw [← eJ] at hcj HBj hag has htl
  have hX1 := h.jcell (i := i) (g := g) hi eg 5 (by decide) (.int .i64 (J.age + 1)) { J with age := J.age + 1 } (by rw [← eJ]; rfl) (by rw [← eJ]; exact ⟨rfl, rfl, rfl, rfl, rfl, rfl, rfl, rfl⟩)
  obtain ⟨v1, ev1⟩ : ∃ v1 : CkV, v1 = { v with js := v.js.set i { J with age := J.age + 1 } } := ⟨_, rfl⟩
  rw [← ev1] at hX1
  have HV1 : Hid (v1 = { v with js := v.js.set i { J with age := J.age + 1 } }) := ev1
  have H1 : Hid (v1.jl = v.jl ∧ v1.ja = v.ja ∧ v1.js.getD i default = { J with age := J.age + 1 } ∧ v1.rs = [] ∧ v1.ml = v.ml ∧ v1.pl = v.pl ∧ v1.s = v.s) := by rw [ev1]; exact ⟨rfl, rfl, set_getD _ _ _ hi', hr, rfl, rfl, rfl⟩
  have HL1 : Hid (Labs w B q v1 ls) := fun U u iy m' hU => by rw [ev1]; exact hL U u iy m' hU
  obtain ⟨X1, eX1⟩ : ∃ X1, X1 = X.setCell ⟨g, i * 6 + 5, none⟩ (.int .i64 (J.age + 1)) := ⟨_, rfl⟩
  rw [← eX1] at hX1
  have HC1 : Hid (Clerk w X1 B q v1 ix more) := hX1
  have hTn1 : Hid (v1.tn = { v.tn with js := v.tn.js.set i { J.bare with age := J.age + 1 } }) := by
    show _ = _
    rw [ev1]
    unfold CkV.tn
    simp only [set_bare]
    rfl
  have HAg : Hid (v.tn.aged (v.cx ls) i = if J.age + 1 < v.p then v1.tn else if J.state = 3 then { v.tn with js := v.tn.js.set i { J.bare with age := 0 }, ms := v.tn.ms ++ J.asked.map (decM v.me J.n true) } else if J.state = 2 then Tn.ended (v1.tn.rep (v.cx ls) 4 J.n 0 0 14) (v.cx ls) J.n J.tasks else if waitB J = true then Tn.ended (v1.tn.rep (v.cx ls) (callKind (lastT J)) J.n (lastT J).key 0 14) (v.cx ls) J.n J.tasks else Tn.ended v1.tn (v.cx ls) J.n J.tasks) := by
    show _ = _
    unfold Tn.aged
    rw [HBj.out, hTn1.out]
    rfl
  have HCx : Hid (v1.cx ls = v.cx ls) := by show _ = _; rw [ev1]; rfl
  have HDn : Hid (∀ (U : World) (u : CkV) (iy : List (Nat × Nat)) (m' : List Rw), Clerk w U B q u iy m' → RecsIn u.rs m' → Hd v1 u → u.tn = v.tn.aged (v.cx ls) i → DoneIs w U B q v (v.tn.aged (v.cx ls) i) (.returned (.tuple #[]))) := fun U u iy m' h1 h2 h3 h4 => ⟨rfl, u, iy, m', h1, h2, h4, by rw [HV1.out] at h3; exact h3⟩
  /- the job's cells in every clerk whose i-th job is this one -/
  have HJc : Hid (∀ (U : World) (u : CkV) (iy : List (Nat × Nat)) (m' : List Rw), Clerk w U B q u iy m' → u.jl = v.jl → u.ja = v.ja → u.js.getD i default = { J with age := J.age + 1 } → (∀ c, c < 6 → U.cell? ⟨g, i * 6 + c, none⟩ = (JbV.cells { J with age := J.age + 1 })[c]?) ∧ g < U.heap.size ∧ IsTasks U J.ta J.tl J.tc J.tasks) := fun U u iy m' hU e1 e2 e3 => by
    obtain ⟨g2, eg2, -, zg2, -, hc2, -⟩ := hU.jobAt (i := i) (by rw [e1]; exact hi)
    rw [e2] at eg2
    obtain rfl := ptrEq eg eg2
    have hT := hU.isTasks (i := i) (by rw [e1]; exact hi)
    rw [e3] at hc2 hT
    exact ⟨hc2, zg2, hT⟩
  have HEd : Hid (∀ (U : World) (u : CkV) (iy : List (Nat × Nat)) (m' : List Rw), Clerk w U B q u iy m' → u.jl = v.jl → u.ja = v.ja → u.js.getD i default = { J with age := J.age + 1 } → u.rs = [] → u.ml = v.ml → Hd v1 u → v.tn.aged (v.cx ls) i = u.tn.ended (v.cx ls) J.n J.tasks → Calls Try.prog 24 #[.pointer (some ⟨q, 0, none⟩), JbV.val { J with age := J.age + 1 }] U fun e X' => e = .returned (.tuple #[]) ∧ DoneIs w X' B q v (v.tn.aged (v.cx ls) i) (.returned (.tuple #[]))) := fun U u iy m' hU e1 e2 e3 e4 e5 e6 e7 => by
    obtain ⟨k1, k2, k3, k4, k5, k6, k7⟩ := e6
    have hcx : u.cx ls = v.cx ls := by rw [← HCx.out]; unfold CkV.cx; rw [k1, k5, k6, k7]
    have h1 := end_done U hU e4 ls { J with age := J.age + 1 } (HJc.out U u iy m' hU e1 e2 e3).2.2 (by rw [k1, H1.out.2.2.2.2.2.2]; exact hs) (by rw [e5]; exact hm) (fun U' u' iy' m'' hU' => by rw [k2, k3, k4]; exact HL1.out U' u' iy' m'' hU')
    rw [hcx] at h1
    refine h1.mono ?_
    rintro e x ⟨rfl, u', ix', more', g1, g2, g3, g4⟩
    refine ⟨rfl, HDn.out _ u' ix' more' g1 g2 ?_ ?_⟩
    · obtain ⟨l1, l2, l3, l4, l5, l6, l7⟩ := g4
      exact ⟨l1.trans k1, l2.trans k2, l3.trans k3, l4.trans k4, l5.trans k5, l6.trans k6, l7.trans k7⟩
    · rw [g3, e7]
  have HTl : Hid (∀ U, Below X1.heap.size X1 U → J.state = 3 → ¬ J.age + 1 < v.p → Calls Try.prog 63 #[.pointer (some ⟨q, 0, none⟩), .pointer (some ⟨g, i * 6, none⟩)] U fun e X' => e = .returned (.tuple #[]) ∧ DoneIs w X' B q v (v.tn.aged (v.cx ls) i) (.returned (.tuple #[]))) := fun U hU h3 hlt => by
    have h1 := tell_any U (HC1.out.below hU) (i := i) (g := g) (by rw [H1.out.1]; exact hi) (by rw [H1.out.2.1]; exact eg) (by rw [H1.out.2.2.1]; exact has) (by rw [H1.out.2.2.2.2.1]; exact fitM hm)
    refine h1.mono ?_
    rintro e x ⟨rfl, ma, mc, h5⟩
    refine ⟨rfl, HDn.out _ _ ix more h5 ?_ ?_ ?_⟩
    · show RecsIn v1.rs _
      rw [H1.out.2.2.2.1]
      exact recsIn_nil _
    · exact ⟨rfl, rfl, rfl, rfl, rfl, rfl, rfl⟩
    · rw [HAg.out, if_neg hlt, if_pos h3, H1.out.2.2.1]
      unfold toldV ageZero CkV.tn
      simp only [H1.out.2.2.1, set_bare]
      rw [HV1.out]
      simp only [set_bare, List.set_set]
      rfl
  have HRp : Hid (∀ (U : World) (kd ky : Int), Clerk w U B q v1 ix more → Calls Try.prog 20 #[.pointer (some ⟨q, 0, none⟩), .agg #[.int .i64 0, .int .i64 kd, .int .i64 J.n, .int .i64 ky, .int .i64 0, .int .i64 14]] U fun e X' => e = .returned (.tuple #[]) ∧ ∃ a5 c5, Clerk w X' B q (refusedV v1 a5 c5 ⟨v1.me, kd, J.n, ky, 0, 14⟩) ix more) := fun U kd ky hU => reply_any U hU ⟨0, kd, J.n, ky, 0, 14⟩ (fitP (by rw [H1.out.2.2.2.2.2.1]; exact hp))
  have HRt : Hid (∀ (a5 : Option Addr) (c5 : Nat) (kd ky : Int), (refusedV v1 a5 c5 ⟨v1.me, kd, J.n, ky, 0, 14⟩).tn = v1.tn.rep (v.cx ls) kd J.n ky 0 14) := fun a5 c5 kd ky => by rw [← HCx.out]; rfl
  have HWt : Hid (∀ U, Below X1.heap.size X1 U → Calls Try.prog 47 #[.pointer (some ⟨g, i * 6, none⟩)] U fun e X' => WaitIs e { J with age := J.age + 1 } ∧ X' = U) := fun U hU => by
    have := waiting_any U (HC1.out.below hU) (i := i) (g := g) (by rw [H1.out.1]; exact hi) (by rw [H1.out.2.1]; exact eg)
    rw [H1.out.2.2.1] at this
    exact this
  have HTk : Hid (∀ (U : World) (u : CkV) (iy : List (Nat × Nat)) (m' : List Rw) (gt mm : Nat), Clerk w U B q u iy m' → u.jl = v.jl → u.js.getD i default = { J with age := J.age + 1 } → J.ta = some ⟨gt, 0, none⟩ → J.tl = mm + 1 → (∀ c, c < 8 → U.cell? ⟨gt, mm * 8 + c, none⟩ = (lastT J).cells[c]?) ∧ gt < U.heap.size) := fun U u iy m' gt mm hU e1 e2 e3 e4 => by
    have ht := hU.isTasks (i := i) (by rw [e1]; exact hi)
    rw [e2] at ht
    simp only [] at ht
    rw [e3, e4] at ht
    obtain ⟨b, off, e5, zb, hcr⟩ := ht.2.2.2.2 (by omega)
    simp at e5
    obtain ⟨rfl, rfl⟩ := e5
    refine ⟨fun c hc => ?_, zb⟩
    have := hcr mm (by omega) c hc
    rw [Nat.zero_add] at this
    have e6 : lastT J = J.tasks.getD mm default := by unfold lastT; rw [ht.1]; rfl
    rw [e6]
    exact this
  have x2 : X1.cell? ⟨q, 2, none⟩ = some (.int .i64 v1.p) := (hX1.held.box.c 2 (by decide)).1
  have ep : v1.p = v.p := by rw [ev1]
  rw [ep] at x2
  have zq1 := hX1.held.box.lt
  obtain ⟨hc1, zg1, -⟩ := HJc.out X1 v1 ix more hX1 H1.out.1 H1.out.2.1 H1.out.2.2.1
  clear h hX1 hr eJ ev1 bx ep
  obtain ⟨jn, st, ta, tl, tc, aa, al, ac, asks, age, tasks, asked⟩ := J
  simp only [] at HEd HTl HRp HRt HWt HTk HAg hag has htl eX1
  have c5 := hcj 5 (by decide)
  have f5 := hfj 5 (by decide)
  simp only [JbV.cells, List.getElem?_cons_zero, List.getElem?_cons_succ] at c5
  have j0 := hc1 0 (by decide)
  have j1 := hc1 1 (by decide)
  have j2 := hc1 2 (by decide)
  have j3 := hc1 3 (by decide)
  have j4 := hc1 4 (by decide)
  have j5 := hc1 5 (by decide)
  simp only [JbV.cells, List.getElem?_cons_zero, List.getElem?_cons_succ, Nat.add_zero] at j0 j1 j2 j3 j4 j5
  simp only [JbV.val] at HEd
  have hwr : wrap64 (age + 1) = age + 1 := by unfold wrap64; omega
  obtain ⟨P, eP⟩ : ∃ P, P = v.p := ⟨_, rfl⟩
  rw [← eP] at HAg HTl x2
  have HP : Hid (P = v.p) := eP
  clear eP hcj hfj hc1
  go_enter Try.func37, Try.ntmps37
  go_upto_region 1 with (fail)
  rw [← eX1]
  clear eX1 c5 f5
  by_cases hlt : age + 1 < P
  · go_quiet (fail)
    have hF := HDn.out _ v1 ix more (HC1.out.below (below_drewN (Below.refl _ _) nq)) (by rw [H1.out.2.2.2.1]; exact recsIn_nil _) ⟨rfl, rfl, rfl, rfl, rfl, rfl, rfl⟩ (by rw [HAg.out, if_pos hlt])
    go_wp2
    exact bodyPost_ret (v := .tuple #[]) (by simp [results, Try.results37, go_sem]) rfl hF
  · have HLt : Hid (¬ age + 1 < P) := hlt
    have hlt' : P ≤ age + 1 := by omega
    go_quiet (fail)
    have bQ := below_drewN (Below.refl X1.heap.size X1) nq
    obtain ⟨Z, eZ⟩ : ∃ Z : World, Z = X1.drewN nq := ⟨_, rfl⟩
    rw [← eZ] at bQ ⊢
    clear eZ x2 j0 j1 j2 j3 j4 j5
    have HCZ : Hid (Clerk w Z B q v1 ix more) := HC1.out.below bQ
    obtain ⟨hcZ, zgZ, -⟩ := HJc.out Z v1 ix more HCZ.out H1.out.1 H1.out.2.1 H1.out.2.2.1
    have j0 := hcZ 0 (by decide)
    have j1 := hcZ 1 (by decide)
    have j2 := hcZ 2 (by decide)
    have j3 := hcZ 3 (by decide)
    have j4 := hcZ 4 (by decide)
    have j5 := hcZ 5 (by decide)
    simp only [JbV.cells, List.getElem?_cons_zero, List.getElem?_cons_succ, Nat.add_zero] at j0 j1 j2 j3 j4 j5
    clear hcZ
    by_cases h3 : st = 3
    · subst h3
      have HT3 : Hid (Calls Try.prog 63 #[.pointer (some ⟨q, 0, none⟩), .pointer (some ⟨g, i * 6, none⟩)] Z fun e X' => e = .returned (.tuple #[]) ∧ DoneIs w X' B q v (v.tn.aged (v.cx ls) i) (.returned (.tuple #[]))) := HTl.out Z bQ rfl (by omega)
      clear hlt
      go_wp2_with (go_at_call 63; refine HT3.out.mono ?_; rintro e w9 ⟨rfl, h9⟩)
      exact bodyPost_ret (v := .tuple #[]) (by simp [results, Try.results37, go_sem]) rfl h9
    · have h3' : (st == 3) = false := by simpa using h3
      by_cases h2 : st = 2
      · subst h2
        have HR2 : Hid (Calls Try.prog 20 #[.pointer (some ⟨q, 0, none⟩), .agg #[.int .i64 0, .int .i64 4, .int .i64 jn, .int .i64 0, .int .i64 0, .int .i64 14]] Z fun e X' => e = .returned (.tuple #[]) ∧ ∃ a5 c5, Clerk w X' B q (refusedV v1 a5 c5 ⟨v1.me, 4, jn, 0, 0, 14⟩) ix more) := HRp.out Z 4 0 HCZ.out
        have HA2 : Hid (∀ a5 c5, v.tn.aged (v.cx ls) i = ((refusedV v1 a5 c5 ⟨v1.me, 4, jn, 0, 0, 14⟩).tn).ended (v.cx ls) jn tasks) := fun a5 c5 => by rw [HAg.out, if_neg (by omega), if_neg (by decide), if_pos rfl, HRt.out]
        clear hlt
        go_upto_region 9 with (go_at_call 20; refine HR2.out.mono ?_; rintro e Y ⟨rfl, a5, c5, hC5⟩)
        obtain ⟨v5, ev5⟩ : ∃ v5 : CkV, v5 = refusedV v1 a5 c5 ⟨v1.me, 4, jn, 0, 0, 14⟩ := ⟨_, rfl⟩
        rw [← ev5] at hC5
        have H5 : Hid (v5.jl = v.jl ∧ v5.ja = v.ja ∧ v5.js.getD i default = ⟨jn, 2, ta, tl, tc, aa, al, ac, asks, age + 1, tasks, asked⟩ ∧ v5.rs = [] ∧ v5.ml = v.ml ∧ Hd v1 v5) := by rw [ev5]; exact ⟨H1.out.1, H1.out.2.1, H1.out.2.2.1, H1.out.2.2.2.1, H1.out.2.2.2.2.1, rfl, rfl, rfl, rfl, rfl, rfl, rfl⟩
        have HE5 : Hid (Calls Try.prog 24 #[.pointer (some ⟨q, 0, none⟩), .agg #[.int .i64 jn, .int .i64 2, .slice ta tl tc, .slice aa al ac, .int .i64 asks, .int .i64 (age + 1)]] Y fun e X' => e = .returned (.tuple #[]) ∧ DoneIs w X' B q v (v.tn.aged (v.cx ls) i) (.returned (.tuple #[]))) := HEd.out Y v5 ix more hC5 H5.out.1 H5.out.2.1 H5.out.2.2.1 H5.out.2.2.2.1 H5.out.2.2.2.2.1 H5.out.2.2.2.2.2 (by rw [ev5]; exact HA2.out a5 c5)
        obtain ⟨hcY, zgY, -⟩ := HJc.out Y v5 ix more hC5 H5.out.1 H5.out.2.1 H5.out.2.2.1
        have y0 := hcY 0 (by decide)
        have y1 := hcY 1 (by decide)
        have y2 := hcY 2 (by decide)
        have y3 := hcY 3 (by decide)
        have y4 := hcY 4 (by decide)
        have y5 := hcY 5 (by decide)
        simp only [JbV.cells, List.getElem?_cons_zero, List.getElem?_cons_succ, Nat.add_zero] at y0 y1 y2 y3 y4 y5
        clear hcY hC5 ev5 j0 j1 j2 j3 j4 j5
        go_wp2_with (go_at_call 24; refine HE5.out.mono ?_; rintro e w9 ⟨rfl, h9⟩)
        exact bodyPost_end (v := .tuple #[]) (by simp [results, Try.results37, go_sem]) rfl h9
      · have h2' : (st == 2) = false := by simpa using h2
        have HWZ : Hid (Calls Try.prog 47 #[.pointer (some ⟨g, i * 6, none⟩)] Z fun e X' => WaitIs e ⟨jn, st, ta, tl, tc, aa, al, ac, asks, age + 1, tasks, asked⟩ ∧ X' = Z) := HWt.out Z bQ
        clear hlt
        go_upto_region 7 with (go_at_call 47; refine HWZ.out.mono ?_; rintro e u ⟨hWt, hu⟩; rw [hu]; clear hu u; rcases hWt with ⟨hwb, rfl⟩ | ⟨hwb, gt, mm, eta, etl, rfl⟩)
        · have HA2 : Hid (v.tn.aged (v.cx ls) i = v1.tn.ended (v.cx ls) jn tasks) := by
            show _ = _
            have e9 : waitB ⟨jn, st, ta, tl, tc, aa, al, ac, asks, age, tasks, asked⟩ = false := hwb
            rw [HAg.out, if_neg (by omega), if_neg h3, if_neg h2, e9, if_neg (by decide)]
          clear hwb
          go_upto_region 9 with (fail)
          have hC5 := HCZ.out
          obtain ⟨v5, ev5⟩ : ∃ v5 : CkV, v5 = v1 := ⟨_, rfl⟩
          rw [← ev5] at hC5
          have H5 : Hid (v5.jl = v.jl ∧ v5.ja = v.ja ∧ v5.js.getD i default = ⟨jn, st, ta, tl, tc, aa, al, ac, asks, age + 1, tasks, asked⟩ ∧ v5.rs = [] ∧ v5.ml = v.ml ∧ Hd v1 v5) := by rw [ev5]; exact ⟨H1.out.1, H1.out.2.1, H1.out.2.2.1, H1.out.2.2.2.1, H1.out.2.2.2.2.1, rfl, rfl, rfl, rfl, rfl, rfl, rfl⟩
          have HE5 : Hid (Calls Try.prog 24 #[.pointer (some ⟨q, 0, none⟩), .agg #[.int .i64 jn, .int .i64 st, .slice ta tl tc, .slice aa al ac, .int .i64 asks, .int .i64 (age + 1)]] Z fun e X' => e = .returned (.tuple #[]) ∧ DoneIs w X' B q v (v.tn.aged (v.cx ls) i) (.returned (.tuple #[]))) := HEd.out Z v5 ix more hC5 H5.out.1 H5.out.2.1 H5.out.2.2.1 H5.out.2.2.2.1 H5.out.2.2.2.2.1 H5.out.2.2.2.2.2 (by rw [ev5]; exact HA2.out)
          obtain ⟨hcY, zgY, -⟩ := HJc.out Z v5 ix more hC5 H5.out.1 H5.out.2.1 H5.out.2.2.1
          have y0 := hcY 0 (by decide)
          have y1 := hcY 1 (by decide)
          have y2 := hcY 2 (by decide)
          have y3 := hcY 3 (by decide)
          have y4 := hcY 4 (by decide)
          have y5 := hcY 5 (by decide)
          simp only [JbV.cells, List.getElem?_cons_zero, List.getElem?_cons_succ, Nat.add_zero] at y0 y1 y2 y3 y4 y5
          clear hcY hC5 ev5 j0 j1 j2 j3 j4 j5
          go_wp2_with (go_at_call 24; refine HE5.out.mono ?_; rintro e w9 ⟨rfl, h9⟩)
          exact bodyPost_end (v := .tuple #[]) (by simp [results, Try.results37, go_sem]) rfl h9
        · have HA2 : Hid (∀ a5 c5, v.tn.aged (v.cx ls) i = ((refusedV v1 a5 c5 ⟨v1.me, callKind (lastT ⟨jn, st, ta, tl, tc, aa, al, ac, asks, age, tasks, asked⟩), jn, (lastT ⟨jn, st, ta, tl, tc, aa, al, ac, asks, age, tasks, asked⟩).key, 0, 14⟩).tn).ended (v.cx ls) jn tasks) := fun a5 c5 => by
            have e9 : waitB ⟨jn, st, ta, tl, tc, aa, al, ac, asks, age, tasks, asked⟩ = true := hwb
            rw [HAg.out, if_neg (by omega), if_neg h3, if_neg h2, e9, if_pos rfl, HRt.out]
          have HTZ : Hid (∀ U, Below Z.heap.size Z U → ∀ c, c < 8 → U.cell? ⟨gt, mm * 8 + c, none⟩ = (lastT ⟨jn, st, ta, tl, tc, aa, al, ac, asks, age, tasks, asked⟩).cells[c]?) := fun U hU c hc => (HTk.out U v1 ix more gt mm (HCZ.out.below hU) H1.out.1 H1.out.2.2.1 eta etl).1 c hc
          have HRk : Hid (∀ U kd ky, Below Z.heap.size Z U → Calls Try.prog 20 #[.pointer (some ⟨q, 0, none⟩), .agg #[.int .i64 0, .int .i64 kd, .int .i64 jn, .int .i64 ky, .int .i64 0, .int .i64 14]] U fun e X' => e = .returned (.tuple #[]) ∧ ∃ a5 c5, Clerk w X' B q (refusedV v1 a5 c5 ⟨v1.me, kd, jn, ky, 0, 14⟩) ix more) := fun U kd ky hU => HRp.out U kd ky (HCZ.out.below hU)
          have HJn : Hid (∀ U, Below Z.heap.size Z U → U.cell? ⟨g, i * 6, none⟩ = some (.int .i64 jn)) := fun U hU => by
            have := (HJc.out U v1 ix more (HCZ.out.below hU) H1.out.1 H1.out.2.1 H1.out.2.2.1).1 0 (by decide)
            simpa [JbV.cells] using this
          obtain ⟨t, et⟩ : ∃ t, t = lastT ⟨jn, st, ta, tl, tc, aa, al, ac, asks, age, tasks, asked⟩ := ⟨_, rfl⟩
          rw [← et] at HTZ HA2
          clear hwb et eta etl
          obtain ⟨write, tlabel, tkey, tvalue, tversion, task, done, sure⟩ := t
          obtain ⟨CK, eCK⟩ : ∃ CK, CK = callKind ⟨write, tlabel, tkey, tvalue, tversion, task, done, sure⟩ := ⟨_, rfl⟩
          have HCo : Hid (∀ U, Calls Try.prog 64 #[.agg #[.bool write, .int .i64 tlabel, .int .i64 tkey, .int .i64 tvalue, .int .i64 tversion, .int .i64 task, .bool done, .bool sure]] U fun e w' => e = .returned (.int .i64 CK) ∧ Below U.heap.size U w') := fun U => by rw [eCK]; exact callOf_any ⟨write, tlabel, tkey, tvalue, tversion, task, done, sure⟩ U
          rw [← eCK] at HA2
          simp only [] at HA2
          have KC : Hid (∀ U, Below Z.heap.size Z U → (U.cell? ⟨gt, mm * 8, none⟩ = some (.bool write) ∧ U.cell? ⟨gt, mm * 8 + 1, none⟩ = some (.int .i64 tlabel) ∧ U.cell? ⟨gt, mm * 8 + 2, none⟩ = some (.int .i64 tkey) ∧ U.cell? ⟨gt, mm * 8 + 3, none⟩ = some (.int .i64 tvalue) ∧ U.cell? ⟨gt, mm * 8 + 4, none⟩ = some (.int .i64 tversion) ∧ U.cell? ⟨gt, mm * 8 + 5, none⟩ = some (.int .i64 task) ∧ U.cell? ⟨gt, mm * 8 + 6, none⟩ = some (.bool done) ∧ U.cell? ⟨gt, mm * 8 + 7, none⟩ = some (.bool sure)) ∧ U.cell? ⟨g, i * 6, none⟩ = some (.int .i64 jn)) := fun U hU => ⟨⟨by simpa [TkV.cells] using HTZ.out U hU 0 (by decide), by simpa [TkV.cells] using HTZ.out U hU 1 (by decide), by simpa [TkV.cells] using HTZ.out U hU 2 (by decide), by simpa [TkV.cells] using HTZ.out U hU 3 (by decide), by simpa [TkV.cells] using HTZ.out U hU 4 (by decide), by simpa [TkV.cells] using HTZ.out U hU 5 (by decide), by simpa [TkV.cells] using HTZ.out U hU 6 (by decide), by simpa [TkV.cells] using HTZ.out U hU 7 (by decide)⟩, HJn.out U hU⟩
          obtain ⟨D, eD⟩ : ∃ D : World → Prop, D = fun u => ∃ (pa : Option Addr) (pc : Nat), Clerk w u B q (refusedV v1 pa pc ⟨v1.me, CK, jn, tkey, 0, 14⟩) ix more := ⟨_, rfl⟩
          have HD : Hid (∀ u, D u → ∃ (pa : Option Addr) (pc : Nat), Clerk w u B q (refusedV v1 pa pc ⟨v1.me, CK, jn, tkey, 0, 14⟩) ix more) := fun u hu => by rw [eD] at hu; exact hu
          have HR3 : Hid (∀ U, Below Z.heap.size Z U → Calls Try.prog 20 #[.pointer (some ⟨q, 0, none⟩), .agg #[.int .i64 0, .int .i64 CK, .int .i64 jn, .int .i64 tkey, .int .i64 0, .int .i64 14]] U fun e X' => e = .returned (.tuple #[]) ∧ D X') := fun U hU => by
            refine (HRk.out U CK tkey hU).mono ?_
            rintro e u ⟨rfl, a5, c5, h5⟩
            exact ⟨rfl, by rw [eD]; exact ⟨a5, c5, h5⟩⟩
          clear eCK eD HTZ HRk HJn
          go_upto_region 8 with (fail)
          refine wp_region_inv (by kernel_rfl) [46, 47, 48, 49, 50, 51, 52, 53, 54, 55, 56, 57, 58, 59, 60] (fun L T u => True ∧ (L 0 = true → T 46 = .pointer (some ⟨q, 0, none⟩)) ∧ (L 1 = true → T 47 = .pointer (some ⟨gt, mm * 8, none⟩)) ∧ (L 2 = true → T 48 = .pointer (some ⟨gt, mm * 8, none⟩)) ∧ (L 3 = true → T 49 = .agg #[.bool write, .int .i64 tlabel, .int .i64 tkey, .int .i64 tvalue, .int .i64 tversion, .int .i64 task, .bool done, .bool sure]) ∧ (L 4 = true → T 50 = .int .i64 CK) ∧ (L 5 = true → T 51 = .pointer (some ⟨g, i * 6, none⟩)) ∧ (L 6 = true → T 52 = .pointer (some ⟨g, i * 6, none⟩)) ∧ (L 7 = true → T 53 = .pointer (some ⟨g, i * 6, none⟩)) ∧ (L 8 = true → T 54 = .int .i64 jn) ∧ (L 9 = true → T 55 = .pointer (some ⟨gt, mm * 8, none⟩)) ∧ (L 10 = true → T 56 = .pointer (some ⟨gt, mm * 8, none⟩)) ∧ (L 11 = true → T 57 = .pointer (some ⟨gt, mm * 8 + 2, none⟩)) ∧ (L 12 = true → T 58 = .int .i64 tkey) ∧ (L 13 = true → T 59 = .agg #[.int .i64 0, .int .i64 CK, .int .i64 jn, .int .i64 tkey, .int .i64 0, .int .i64 14]) ∧ (L 14 = false → Below Z.heap.size Z u) ∧ (L 14 = true → D u)) (by decide) (by kernel_rfl) (by kernel_rfl) ?_ ?_ ?_
          · exact ⟨trivial, nofun, nofun, nofun, nofun, nofun, nofun, nofun, nofun, nofun, nofun, nofun, nofun, nofun, nofun, fun _ => (Below.refl _ _).drew, nofun⟩
          · refine ⟨?_, ?_, ?_, ?_, ?_, ?_, ?_, ?_, ?_, ?_, ?_, ?_, ?_, ?_, ?_, trivial⟩
            · rintro L T u hd hk hcl ⟨hb, p0, p1, p2, p3, p4, p5, p6, p7, p8, p9, p10, p11, p12, p13, c1, c2⟩ K hK
              simp only [fr, Act.put, List.setIfInBounds_toArray, List.set_cons_zero, List.set_cons_succ, updO] at hK ⊢
              simp [Region.binds] at hd
              rw [if_pos (by rfl)]
              simp only [Oper.wpv]
              go_simp
              exact hK _ _ ⟨hb, fun _ => rfl, p1, p2, p3, p4, p5, p6, p7, p8, p9, p10, p11, p12, p13, c1, c2⟩
            · rintro L T u hd hk hcl ⟨hb, p0, p1, p2, p3, p4, p5, p6, p7, p8, p9, p10, p11, p12, p13, c1, c2⟩ K hK
              simp only [fr, Act.put, List.setIfInBounds_toArray, List.set_cons_zero, List.set_cons_succ, updO] at hK ⊢
              simp [Region.binds] at hd
              rw [if_pos (by rfl)]
              simp only [Oper.wpv]
              go_simp
              exact hK _ _ ⟨hb, p0, fun _ => rfl, p2, p3, p4, p5, p6, p7, p8, p9, p10, p11, p12, p13, c1, c2⟩
            · rintro L T u hd hk hcl ⟨hb, p0, p1, p2, p3, p4, p5, p6, p7, p8, p9, p10, p11, p12, p13, c1, c2⟩ K hK
              simp only [fr, Act.put, List.setIfInBounds_toArray, List.set_cons_zero, List.set_cons_succ, updO] at hK ⊢
              simp [Region.binds] at hd
              have g1 := p1 (by simp [hd])
              rw [if_pos (by rfl)]
              simp only [Oper.wpv]
              go_simp
              exact hK _ _ ⟨hb, p0, p1, fun _ => rfl, p3, p4, p5, p6, p7, p8, p9, p10, p11, p12, p13, c1, c2⟩
            · rintro L T u hd hk hcl ⟨hb, p0, p1, p2, p3, p4, p5, p6, p7, p8, p9, p10, p11, p12, p13, c1, c2⟩ K hK
              simp only [fr, Act.put, List.setIfInBounds_toArray, List.set_cons_zero, List.set_cons_succ, updO] at hK ⊢
              simp [Region.binds] at hd
              have g2 := p2 (by simp [hd])
              have k14 := hcl 14 _ rfl
              simp [Region.binds] at k14
              have k13 := hcl 13 _ rfl
              simp [Region.binds] at k13
              have k4 := hcl 4 _ rfl
              simp [Region.binds] at k4
              have hE : L 14 = false := by cases h : L 14 with | false => rfl | true => have a14 := k14 h; have a13 := k13 (by simp [a14]); have a4 := k4 (by simp [a13]); simp [hk] at a4
              obtain ⟨⟨t0, t1, t2, t3, t4, t5, t6, t7⟩, xn⟩ := KC.out u (c1 hE)
              rw [if_pos (by rfl)]
              simp only [Oper.wpv]
              go_simp
              exact hK _ _ ⟨hb, p0, p1, p2, fun _ => rfl, p4, p5, p6, p7, p8, p9, p10, p11, p12, p13, c1, c2⟩
            · rintro L T u hd hk hcl ⟨hb, p0, p1, p2, p3, p4, p5, p6, p7, p8, p9, p10, p11, p12, p13, c1, c2⟩ K hK
              simp only [fr, Act.put, List.setIfInBounds_toArray, List.set_cons_zero, List.set_cons_succ, updO] at hK ⊢
              simp [Region.binds] at hd
              have g3 := p3 (by simp [hd])
              have k14 := hcl 14 _ rfl
              simp [Region.binds] at k14
              have k13 := hcl 13 _ rfl
              simp [Region.binds] at k13
              have hE : L 14 = false := by cases h : L 14 with | false => rfl | true => have a14 := k14 h; have a13 := k13 (by simp [a14]); simp [hk] at a13
              rw [if_pos (by rfl)]
              simp only [Oper.wpv]
              go_simp
              refine (HCo.out _).mono ?_
              rintro e u1 ⟨rfl, hg⟩
              exact hK _ _ ⟨hb, p0, p1, p2, p3, fun _ => rfl, p5, p6, p7, p8, p9, p10, p11, p12, p13, fun _ => nT (c1 hE) hg, fun h => absurd (show L 14 = true from h) (by simp [hE])⟩
            · rintro L T u hd hk hcl ⟨hb, p0, p1, p2, p3, p4, p5, p6, p7, p8, p9, p10, p11, p12, p13, c1, c2⟩ K hK
              simp only [fr, Act.put, List.setIfInBounds_toArray, List.set_cons_zero, List.set_cons_succ, updO] at hK ⊢
              simp [Region.binds] at hd
              rw [if_pos (by rfl)]
              simp only [Oper.wpv]
              go_simp
              exact hK _ _ ⟨hb, p0, p1, p2, p3, p4, fun _ => rfl, p6, p7, p8, p9, p10, p11, p12, p13, c1, c2⟩
            · rintro L T u hd hk hcl ⟨hb, p0, p1, p2, p3, p4, p5, p6, p7, p8, p9, p10, p11, p12, p13, c1, c2⟩ K hK
              simp only [fr, Act.put, List.setIfInBounds_toArray, List.set_cons_zero, List.set_cons_succ, updO] at hK ⊢
              simp [Region.binds] at hd
              have g5 := p5 (by simp [hd])
              rw [if_pos (by rfl)]
              simp only [Oper.wpv]
              go_simp
              exact hK _ _ ⟨hb, p0, p1, p2, p3, p4, p5, fun _ => rfl, p7, p8, p9, p10, p11, p12, p13, c1, c2⟩
            · rintro L T u hd hk hcl ⟨hb, p0, p1, p2, p3, p4, p5, p6, p7, p8, p9, p10, p11, p12, p13, c1, c2⟩ K hK
              simp only [fr, Act.put, List.setIfInBounds_toArray, List.set_cons_zero, List.set_cons_succ, updO] at hK ⊢
              simp [Region.binds] at hd
              have g6 := p6 (by simp [hd])
              rw [if_pos (by rfl)]
              simp only [Oper.wpv]
              go_simp
              exact hK _ _ ⟨hb, p0, p1, p2, p3, p4, p5, p6, fun _ => rfl, p8, p9, p10, p11, p12, p13, c1, c2⟩
            · rintro L T u hd hk hcl ⟨hb, p0, p1, p2, p3, p4, p5, p6, p7, p8, p9, p10, p11, p12, p13, c1, c2⟩ K hK
              simp only [fr, Act.put, List.setIfInBounds_toArray, List.set_cons_zero, List.set_cons_succ, updO] at hK ⊢
              simp [Region.binds] at hd
              have g7 := p7 (by simp [hd])
              have k14 := hcl 14 _ rfl
              simp [Region.binds] at k14
              have k13 := hcl 13 _ rfl
              simp [Region.binds] at k13
              have hE : L 14 = false := by cases h : L 14 with | false => rfl | true => have a14 := k14 h; have a13 := k13 (by simp [a14]); simp [hk] at a13
              obtain ⟨⟨t0, t1, t2, t3, t4, t5, t6, t7⟩, xn⟩ := KC.out u (c1 hE)
              rw [if_pos (by rfl)]
              simp only [Oper.wpv]
              go_simp
              exact hK _ _ ⟨hb, p0, p1, p2, p3, p4, p5, p6, p7, fun _ => rfl, p9, p10, p11, p12, p13, c1, c2⟩
            · rintro L T u hd hk hcl ⟨hb, p0, p1, p2, p3, p4, p5, p6, p7, p8, p9, p10, p11, p12, p13, c1, c2⟩ K hK
              simp only [fr, Act.put, List.setIfInBounds_toArray, List.set_cons_zero, List.set_cons_succ, updO] at hK ⊢
              simp [Region.binds] at hd
              rw [if_pos (by rfl)]
              simp only [Oper.wpv]
              go_simp
              exact hK _ _ ⟨hb, p0, p1, p2, p3, p4, p5, p6, p7, p8, fun _ => rfl, p10, p11, p12, p13, c1, c2⟩
            · rintro L T u hd hk hcl ⟨hb, p0, p1, p2, p3, p4, p5, p6, p7, p8, p9, p10, p11, p12, p13, c1, c2⟩ K hK
              simp only [fr, Act.put, List.setIfInBounds_toArray, List.set_cons_zero, List.set_cons_succ, updO] at hK ⊢
              simp [Region.binds] at hd
              have g9 := p9 (by simp [hd])
              rw [if_pos (by rfl)]
              simp only [Oper.wpv]
              go_simp
              exact hK _ _ ⟨hb, p0, p1, p2, p3, p4, p5, p6, p7, p8, p9, fun _ => rfl, p11, p12, p13, c1, c2⟩
            · rintro L T u hd hk hcl ⟨hb, p0, p1, p2, p3, p4, p5, p6, p7, p8, p9, p10, p11, p12, p13, c1, c2⟩ K hK
              simp only [fr, Act.put, List.setIfInBounds_toArray, List.set_cons_zero, List.set_cons_succ, updO] at hK ⊢
              simp [Region.binds] at hd
              have g10 := p10 (by simp [hd])
              rw [if_pos (by rfl)]
              simp only [Oper.wpv]
              go_simp
              exact hK _ _ ⟨hb, p0, p1, p2, p3, p4, p5, p6, p7, p8, p9, p10, fun _ => rfl, p12, p13, c1, c2⟩
            · rintro L T u hd hk hcl ⟨hb, p0, p1, p2, p3, p4, p5, p6, p7, p8, p9, p10, p11, p12, p13, c1, c2⟩ K hK
              simp only [fr, Act.put, List.setIfInBounds_toArray, List.set_cons_zero, List.set_cons_succ, updO] at hK ⊢
              simp [Region.binds] at hd
              have g11 := p11 (by simp [hd])
              have k14 := hcl 14 _ rfl
              simp [Region.binds] at k14
              have k13 := hcl 13 _ rfl
              simp [Region.binds] at k13
              have hE : L 14 = false := by cases h : L 14 with | false => rfl | true => have a14 := k14 h; have a13 := k13 (by simp [a14]); simp [hk] at a13
              obtain ⟨⟨t0, t1, t2, t3, t4, t5, t6, t7⟩, xn⟩ := KC.out u (c1 hE)
              rw [if_pos (by rfl)]
              simp only [Oper.wpv]
              go_simp
              exact hK _ _ ⟨hb, p0, p1, p2, p3, p4, p5, p6, p7, p8, p9, p10, p11, fun _ => rfl, p13, c1, c2⟩
            · rintro L T u hd hk hcl ⟨hb, p0, p1, p2, p3, p4, p5, p6, p7, p8, p9, p10, p11, p12, p13, c1, c2⟩ K hK
              simp only [fr, Act.put, List.setIfInBounds_toArray, List.set_cons_zero, List.set_cons_succ, updO] at hK ⊢
              simp [Region.binds] at hd
              have g4 := p4 (by simp [hd])
              have g8 := p8 (by simp [hd])
              have g12 := p12 (by simp [hd])
              rw [if_pos (by rfl)]
              simp only [Oper.wpv]
              go_simp
              exact hK _ _ ⟨hb, p0, p1, p2, p3, p4, p5, p6, p7, p8, p9, p10, p11, p12, fun _ => rfl, c1, c2⟩
            · rintro L T u hd hk hcl ⟨hb, p0, p1, p2, p3, p4, p5, p6, p7, p8, p9, p10, p11, p12, p13, c1, c2⟩ K hK
              simp only [fr, Act.put, List.setIfInBounds_toArray, List.set_cons_zero, List.set_cons_succ, updO] at hK ⊢
              simp [Region.binds] at hd
              have g0 := p0 (by simp [hd])
              have g13 := p13 (by simp [hd])
              have hE : L 14 = false := hk
              rw [if_pos (by rfl)]
              simp only [Oper.wpv]
              go_simp
              refine (HR3.out _ (c1 hE)).mono ?_
              rintro e u1 ⟨rfl, hg⟩
              exact hK _ _ ⟨hb, p0, p1, p2, p3, p4, p5, p6, p7, p8, p9, p10, p11, p12, p13, fun h => Bool.noConfusion (show true = false from h), fun _ => hg⟩
          · rintro L T u hl ⟨hb, p0, p1, p2, p3, p4, p5, p6, p7, p8, p9, p10, p11, p12, p13, c1, c2⟩
            simp only [fr, Act.put, List.setIfInBounds_toArray, List.set_cons_zero, List.set_cons_succ]
            obtain ⟨a5, c5, hC5⟩ := HD.out _ (c2 (hl 14 (by decide)))
            clear p0 p1 p2 p3 p4 p5 p6 p7 p8 p9 p10 p11 p12 p13 c1 c2 HD HR3 HCo KC D
            obtain ⟨Y, eY⟩ : ∃ Y : World, Y = u := ⟨_, rfl⟩
            rw [← eY] at hC5 ⊢
            clear eY u
            obtain ⟨v5, ev5⟩ : ∃ v5 : CkV, v5 = refusedV v1 a5 c5 ⟨v1.me, CK, jn, tkey, 0, 14⟩ := ⟨_, rfl⟩
            rw [← ev5] at hC5
            have H5 : Hid (v5.jl = v.jl ∧ v5.ja = v.ja ∧ v5.js.getD i default = ⟨jn, st, ta, tl, tc, aa, al, ac, asks, age + 1, tasks, asked⟩ ∧ v5.rs = [] ∧ v5.ml = v.ml ∧ Hd v1 v5) := by rw [ev5]; exact ⟨H1.out.1, H1.out.2.1, H1.out.2.2.1, H1.out.2.2.2.1, H1.out.2.2.2.2.1, rfl, rfl, rfl, rfl, rfl, rfl, rfl⟩
            have HE5 : Hid (Calls Try.prog 24 #[.pointer (some ⟨q, 0, none⟩), .agg #[.int .i64 jn, .int .i64 st, .slice ta tl tc, .slice aa al ac, .int .i64 asks, .int .i64 (age + 1)]] Y fun e X' => e = .returned (.tuple #[]) ∧ DoneIs w X' B q v (v.tn.aged (v.cx ls) i) (.returned (.tuple #[]))) := HEd.out Y v5 ix more hC5 H5.out.1 H5.out.2.1 H5.out.2.2.1 H5.out.2.2.2.1 H5.out.2.2.2.2.1 H5.out.2.2.2.2.2 (by rw [ev5]; exact HA2.out a5 c5)
            obtain ⟨hcY, zgY, -⟩ := HJc.out Y v5 ix more hC5 H5.out.1 H5.out.2.1 H5.out.2.2.1
            have y0 := hcY 0 (by decide)
            have y1 := hcY 1 (by decide)
            have y2 := hcY 2 (by decide)
            have y3 := hcY 3 (by decide)
            have y4 := hcY 4 (by decide)
            have y5 := hcY 5 (by decide)
            simp only [JbV.cells, List.getElem?_cons_zero, List.getElem?_cons_succ, Nat.add_zero] at y0 y1 y2 y3 y4 y5
            clear hcY hC5 ev5 j0 j1 j2 j3 j4 j5
            go_wp2_with (go_at_call 24; refine HE5.out.mono ?_; rintro e w9 ⟨rfl, h9⟩)
            exact bodyPost_end (v := .tuple #[]) (by simp [results, Try.results37, go_sem]) rfl h9
end Go.Proofs.Ytfhciplckjkflaa.Co
/- A tick on plain data: job by job. -/
namespace Go.Proofs.Ytfhciplckjkflaa.Co
open Go.Proofs.Ytfhciplckjkflaa.St (idxI idxI_lt)
set_option linter.unusedVariables false

def Tn.tickN (t : Tn) (C : Cx) (n : Int) : Tn := t.aged C (idxI (isN n) t.js).toNat
def Tn.tick (t : Tn) (C : Cx) (ns : List Int) : Tn := ns.foldl (fun t n => t.tickN C n) t
structure TickInv (C : Cx) (js : List JbV) (k : Nat) (t : Tn) : Prop where
  sp : ∃ A, t.js = A ++ (js.drop k).map JbV.bare ∧ ∀ a ∈ A, ∀ j ∈ js.drop k, a.n ≠ j.n
  rs : t.rs = []
  ms : t.ms.length ≤ 4 * k
  ps : t.ps.length ≤ k
theorem hands_len {C : Cx} (hs : 0 ≤ C.s ∧ C.s ≤ 4) (ts : List TkV) : (C.hands ts).length ≤ 4 := by
  have := handsTo_len C.s C.ls C.p C.l ts C.s.toNat
  unfold Cx.hands handsOf
  omega
theorem idx_split {n : Int} {A : List JbV} {j : JbV} {l : List JbV} (hA : ∀ a ∈ A, a.n ≠ n) (hj : j.n = n) : idxI (isN n) (A ++ j :: l) = (A.length : Int) := by
  have : (A ++ j :: l).findIdx? (isN n) = some A.length := by
    rw [List.findIdx?_append]
    have h1 : A.findIdx? (isN n) = none := by
      rw [List.findIdx?_eq_none_iff]
      intro x hx
      simp [isN, hA x hx]
    rw [h1]
    simp [List.findIdx?_cons, isN, hj]
  unfold idxI
  rw [this]
theorem kept_split {n : Int} {A : List JbV} {j : JbV} {l : List JbV} (hA : ∀ a ∈ A, a.n ≠ n) (hj : j.n = n) (hl : ∀ a ∈ l, a.n ≠ n) : kept n (A ++ j :: l) = A ++ l := by
  unfold kept keep
  rw [List.filter_append, List.filter_cons]
  have h1 : A.filter (fun x => !isN n x) = A := List.filter_eq_self.2 (fun a ha => by simp [isN, hA a ha])
  have h2 : l.filter (fun x => !isN n x) = l := List.filter_eq_self.2 (fun a ha => by simp [isN, hl a ha])
  rw [h1, h2]
  simp [isN, hj]
theorem getD_split {A : List JbV} {j : JbV} {l : List JbV} : (A ++ j :: l).getD A.length default = j := by simp [List.getD]
theorem set_split {A : List JbV} {j k : JbV} {l : List JbV} : (A ++ j :: l).set A.length k = A ++ k :: l := by
  rw [List.set_append_right _ _ (Nat.le_refl _), Nat.sub_self]
  rfl
theorem tick_step {C : Cx} {js : List JbV} {k : Nat} {t : Tn} (h : TickInv C js k t) (hk : k < js.length) (hs : 0 ≤ C.s ∧ C.s ≤ 4) (hu : ∀ j ∈ js.drop (k + 1), j.n ≠ (js.getD k default).n) (ha : (js.getD k default).asked.length ≤ 4) :
    ∃ i : Nat, idxI (isN (js.getD k default).n) t.js = (i : Int) ∧ t.js.getD i default = (js.getD k default).bare ∧ TickInv C js (k + 1) (t.tickN C (js.getD k default).n) := by
  obtain ⟨⟨A, e1, hA⟩, hrs, hms, hps⟩ := h
  have ed : js.drop k = js.getD k default :: js.drop (k + 1) := by rw [List.drop_eq_getElem_cons hk]; simp [List.getD, hk]
  obtain ⟨j, ej⟩ : ∃ j, j = js.getD k default := ⟨_, rfl⟩
  rw [← ej] at ed hu ha ⊢
  rw [ed] at e1 hA
  simp only [List.map_cons] at e1
  have hAn : ∀ a ∈ A, a.n ≠ j.n := fun a h1 => hA a h1 j (List.mem_cons_self ..)
  have hAr : ∀ a ∈ A, ∀ b ∈ js.drop (k + 1), a.n ≠ b.n := fun a h1 b h2 => hA a h1 b (List.mem_cons_of_mem _ h2)
  have hR : ∀ a ∈ (js.drop (k + 1)).map JbV.bare, a.n ≠ j.n := fun a h1 => by
    obtain ⟨b, hb, rfl⟩ := List.mem_map.1 h1
    exact hu b hb
  have hi : idxI (isN j.n) t.js = (A.length : Int) := by rw [e1]; exact idx_split hAn rfl
  have hg : t.js.getD A.length default = j.bare := by rw [e1]; exact getD_split
  refine ⟨A.length, hi, hg, ?_⟩
  unfold Tn.tickN
  rw [hi]
  have ei : ((A.length : Int)).toNat = A.length := by simp
  rw [ei]
  have hK : ∀ j2 : JbV, j2.n = j.n → (kept j.n (t.js.set A.length j2)) = A ++ (js.drop (k + 1)).map JbV.bare := fun j2 h2 => by
    rw [e1, set_split]
    exact kept_split hAn h2 hR
  have hS : ∀ j2 : JbV, j2.n = j.n → ∃ A', t.js.set A.length j2 = A' ++ (js.drop (k + 1)).map JbV.bare ∧ ∀ a ∈ A', ∀ b ∈ js.drop (k + 1), a.n ≠ b.n := fun j2 h2 => by
    refine ⟨A ++ [j2], by rw [e1, set_split]; simp, fun a h1 b h3 => ?_⟩
    rcases List.mem_append.1 h1 with h4 | h4
    · exact hAr a h4 b h3
    · simp at h4
      subst h4
      rw [h2]
      exact fun e => hu b h3 e.symm
  have hl := hands_len hs j.tasks
  unfold Tn.aged
  rw [hg]
  split
  · refine ⟨hS _ rfl, hrs, by simp only []; omega, by simp only []; omega⟩
  · split
    · refine ⟨hS _ rfl, hrs, ?_, by simp only []; omega⟩
      simp only [List.length_append, List.length_map]
      have : j.bare.asked.length = j.asked.length := rfl
      omega
    · have hms2 : ∀ (u : Tn) (kd ky : Int), u.ms = t.ms → (Tn.ended u C j.bare.n j.bare.tasks).ms.length ≤ 4 * (k + 1) := fun u kd ky e => by
        unfold Tn.ended
        simp only [List.length_append, List.length_map]
        rw [e]
        have : (C.hands j.bare.tasks).length ≤ 4 := hl
        omega
      split
      · exact ⟨⟨A, hK _ rfl, hAr⟩, hrs, hms2 _ 0 0 rfl, by simp [Tn.ended, Tn.rep]; omega⟩
      · split
        · exact ⟨⟨A, hK _ rfl, hAr⟩, hrs, hms2 _ 0 0 rfl, by simp [Tn.ended, Tn.rep]; omega⟩
        · exact ⟨⟨A, hK _ rfl, hAr⟩, hrs, hms2 _ 0 0 rfl, by simp [Tn.ended]; omega⟩
theorem jbs_apart {s nl next : Int} : ∀ {l : List JbV} {low : Int}, jbsGo s nl next low l = true → ∀ k, k < l.length → ∀ j ∈ l.drop (k + 1), j.n ≠ (l.getD k default).n
  | [], _, _, k, hk, _, _ => by simp at hk
  | a :: l, low, h, 0, _, j, hj => by
    simp only [jbsGo, Bool.and_eq_true] at h
    simp only [List.drop_succ_cons, List.drop_zero] at hj
    have := (jbsGo_mem h.2 j hj).2.1
    simp only [List.getD_cons_zero]
    omega
  | a :: l, low, h, k + 1, hk, j, hj => by
    simp only [jbsGo, Bool.and_eq_true] at h
    have := jbs_apart h.2 k (by simpa using hk) j (by simpa using hj)
    simpa using this
theorem tick_take {C : Cx} {t : Tn} {js : List JbV} {k : Nat} (hk : k < js.length) : t.tick C ((js.take (k + 1)).map JbV.n) = (t.tick C ((js.take k).map JbV.n)).tickN C (js.getD k default).n := by
  have e1 : js.take (k + 1) = js.take k ++ [js.getD k default] := by rw [List.take_add_one]; simp [List.getD, hk]
  rw [e1, List.map_append]
  unfold Tn.tick
  rw [List.foldl_append]
  rfl
theorem tick_zero (C : Cx) (next : Int) (js : List JbV) : TickInv C js 0 (tn0 next js) := ⟨⟨[], by simp [tn0], fun a ha => by cases ha⟩, rfl, by simp [tn0], by simp [tn0]⟩
def TickAns (C : Cx) (next : Int) (js : List JbV) : Tn := if rfErr C.s C.ls C.p C.l C.me next js = 0 then (tn0 next js).tick C (js.map JbV.n) else tn0 0 []
end Go.Proofs.Ytfhciplckjkflaa.Co
