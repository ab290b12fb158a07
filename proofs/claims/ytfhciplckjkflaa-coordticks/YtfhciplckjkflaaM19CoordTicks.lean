/- Texts of this claim, one behind the other. -/
import Derived.Test.YtfhciplckjkflaaM18CoordTicks
import Derived.Test.YtfhciplckjkflaaM16CoordTicks
import Derived.Test.YtfhciplckjkflaaM17CoordTicks
import Derived.Test.YtfhciplckjkflaaM10CoordTicks
import Derived.Deep.RegionLaw
/- The clerk's refuseCall: what a client is told who calls for what cannot be. -/
namespace Go.Proofs.Ytfhciplckjkflaa.Co
open Go.ChangeShapes Go.WideShapes Go.ChangeAt Go.RowKit
open Go.Proofs.Ytfhciplckjkflaa.St (BoxN boxn_new own_below grown_setCell IsRow Elem flat flat_append own_isRow)
open Go.Proofs.Ytfhciplckjkflaa.Se (seesB seesErr sees_any)
set_option linter.unusedVariables false

/-- What a call about that job is told. -/
def callErr (sees : Bool) (x : ClV) (j : JbV) : Int := if j.state = 1 then (if waitB j = true then 14 else if (x.kind == 2 || x.kind == 3) = true then taskErr sees x j else 0) else 13
theorem refuseNone_any (q : Nat) (x : ClV) (X : World) : Calls Try.prog 19 #[.pointer (some ⟨q, 0, none⟩), .pointer none, x.val] X fun e X' => e = .returned (.int .i64 6) ∧ Below X.heap.size X X' := by
  obtain ⟨kind, n, label, key, value⟩ := x
  simp only [ClV.val]
  have bW : ∀ o, Below X.heap.size X (X.alloc o) := fun o => (Below.refl _ _).alloc (Nat.le_refl _) _
  go_enter Try.func19, Try.ntmps19
  go_wp2
  go_ret
  exact ⟨rfl, bW _⟩
set_option maxRecDepth 100000 in
set_option maxHeartbeats 4000000 in
theorem refuseCall_any {w : World} {B q : Nat} {v : CkV} {ix : List (Nat × Nat)} {more : List Rw} (X : World) (h : Clerk w X B q v ix more) (ls : List (Int × Int)) (hl : IsLabs X v.a v.len v.cap ls) {i g : Nat} (hi : i < v.jl) (eg : v.ja = some ⟨g, 0, none⟩) (x : ClV) :
    Calls Try.prog 19 #[.pointer (some ⟨q, 0, none⟩), .pointer (some ⟨g, i * 6, none⟩), x.val] X fun e X' => e = .returned (.int .i64 (callErr (seesB v.s ls v.p v.l x.label) x (v.js.getD i default))) ∧ Below X.heap.size X X' := by
  obtain ⟨g', eg', _, zg, _, hc, hf⟩ := h.jobAt hi
  rw [eg] at eg'
  simp at eg'
  subst eg'
  obtain ⟨kind, n, label, key, value⟩ := x
  obtain ⟨W, hW⟩ : ∃ W : World, W = X.alloc (.cells #[.int .i64 kind, .int .i64 n, .int .i64 label, .int .i64 key, .int .i64 value] 29) := ⟨_, rfl⟩
  have bW : Below X.heap.size X W := by rw [hW]; exact (Below.refl _ _).alloc (Nat.le_refl _) _
  have zW : X.heap.size < W.heap.size := by rw [hW]; simp
  have x0 : W.cell? ⟨X.heap.size, 0, none⟩ = some (.int .i64 kind) := by rw [hW]; go_simp
  have x1 : W.cell? ⟨X.heap.size, 1, none⟩ = some (.int .i64 n) := by rw [hW]; go_simp
  have x2 : W.cell? ⟨X.heap.size, 2, none⟩ = some (.int .i64 label) := by rw [hW]; go_simp
  have x3 : W.cell? ⟨X.heap.size, 3, none⟩ = some (.int .i64 key) := by rw [hW]; go_simp
  have x4 : W.cell? ⟨X.heap.size, 4, none⟩ = some (.int .i64 value) := by rw [hW]; go_simp
  have hCW := h.below bW
  have HT : Hid (Calls Try.prog 48 #[.pointer (some ⟨q, 0, none⟩), .pointer (some ⟨g, i * 6, none⟩), .agg #[.int .i64 kind, .int .i64 n, .int .i64 label, .int .i64 key, .int .i64 value]] W fun e X' => e = .returned (.int .i64 (taskErr (seesB v.s ls v.p v.l label) ⟨kind, n, label, key, value⟩ (v.js.getD i default))) ∧ Below W.heap.size W X') := refuseTask_any W hCW ls (hl.below bW) hi eg ⟨kind, n, label, key, value⟩
  have HWt : Hid (Calls Try.prog 47 #[.pointer (some ⟨g, i * 6, none⟩)] W fun e X' => WaitIs e (v.js.getD i default) ∧ X' = W) := waiting_any W hCW hi eg
  have c1 := (bW.cell (p := ⟨g, i * 6 + 1, none⟩) zg).trans (hc 1 (by decide))
  have zgW : g < W.heap.size := Nat.lt_of_lt_of_le zg bW.size
  simp only []
  obtain ⟨S, eS⟩ : ∃ S, S = seesB v.s ls v.p v.l label := ⟨_, rfl⟩
  rw [← eS] at HT ⊢
  obtain ⟨j, ej⟩ : ∃ j, j = v.js.getD i default := ⟨_, rfl⟩
  rw [← ej] at c1 HT HWt ⊢
  clear eS ej h hl hc hf hCW
  have HE : Hid (callErr S ⟨kind, n, label, key, value⟩ j = if j.state = 1 then (if waitB j = true then 14 else if (kind == 2 || kind == 3) = true then taskErr S ⟨kind, n, label, key, value⟩ j else 0) else 13) := rfl
  obtain ⟨R, eR⟩ : ∃ R, R = callErr S ⟨kind, n, label, key, value⟩ j := ⟨_, rfl⟩
  obtain ⟨T, eT⟩ : ∃ T, T = taskErr S ⟨kind, n, label, key, value⟩ j := ⟨_, rfl⟩
  rw [← eR, ← eT] at HE
  rw [← eT] at HT
  rw [← eR]
  clear eR eT
  obtain ⟨st, est⟩ : ∃ st, st = j.state := ⟨_, rfl⟩
  simp only [JbV.cells, List.getElem?_cons_zero, List.getElem?_cons_succ] at c1
  rw [← est] at c1 HE
  clear est
  simp only [ClV.val]
  go_enter Try.func19, Try.ntmps19
  go_upto_region 1 with (fail)
  rw [← hW]
  clear hW
  by_cases hst : st = 1
  · subst hst
    cases hwb : waitB j with
    | true =>
      have hR : Hid (R = 14) := by show _ = _; rw [HE.out, hwb]; rfl
      go_wp2_with (go_at_call 47; refine HWt.out.mono ?_; rintro e w1 ⟨hWI, rfl⟩; rcases hWI with ⟨hwf, _⟩ | ⟨_, gt, m, _, _, rfl⟩; · rw [hwb] at hwf; cases hwf)
      go_ret
      exact ⟨by rw [hR.out]; rfl, bW⟩
    | false =>
      have hR : Hid (R = if (kind == 2 || kind == 3) = true then T else 0) := by show _ = _; rw [HE.out, hwb]; rfl
      clear HE
      go_upto_region 7 with (go_at_call 47; refine HWt.out.mono ?_; rintro e w1 ⟨hWI, rfl⟩; rcases hWI with ⟨_, rfl⟩ | ⟨hwf, _⟩; rotate_left; · rw [hwb] at hwf; cases hwf)
      by_cases k2 : kind = 2
      · have hR1 : Hid (R = T) := by show _ = _; rw [hR.out, k2]; rfl
        subst k2
        go_wp2_with (go_at_call 48; refine HT.out.mono ?_; rintro e w2 ⟨rfl, hb2⟩)
        go_ret
        exact ⟨by rw [hR1.out]; rfl, bW.trans (hb2.mono bW.size)⟩
      · by_cases k3 : kind = 3
        · have hR1 : Hid (R = T) := by show _ = _; rw [hR.out, k3]; rfl
          subst k3
          go_wp2_with (go_at_call 48; refine HT.out.mono ?_; rintro e w2 ⟨rfl, hb2⟩)
          go_ret
          exact ⟨by rw [hR1.out]; rfl, bW.trans (hb2.mono bW.size)⟩
        · have k2' : (kind == 2) = false := by simpa using k2
          have k3' : (kind == 3) = false := by simpa using k3
          have hR1 : Hid (R = 0) := by
            show _ = _
            rw [hR.out, k2', k3']
            rfl
          clear hR k2 k3
          go_wp2
          go_ret
          exact ⟨by rw [hR1.out]; rfl, bW⟩
  · have hR : Hid (R = 13) := by show _ = _; rw [HE.out, if_neg hst]
    clear HE
    go_wp2
    go_ret
    exact ⟨by rw [hR.out]; rfl, bW⟩
end Go.Proofs.Ytfhciplckjkflaa.Co
/- A job's task row grows by one task, and the job is told of it. -/
namespace Go.Proofs.Ytfhciplckjkflaa.Co
open Go.ChangeShapes Go.WideShapes Go.ChangeAt Go.RowKit
open Go.Proofs.Ytfhciplckjkflaa.St (BoxN boxn_new own_below grown_setCell IsRow Elem flat flat_append own_isRow)
set_option linter.unusedVariables false

def moreTask (j : JbV) (a5 : Option Addr) (c5 : Nat) (t : TkV) : JbV := { j with ta := a5, tl := j.tl + 1, tc := c5, tasks := j.tasks ++ [t] }
theorem Clerk.task {w X X' : World} {B q : Nat} {v : CkV} {ix : List (Nat × Nat)} {more : List Rw} (h : Clerk w X B q v ix more) {i g : Nat} (hi : i < v.jl) (eg : v.ja = some ⟨g, 0, none⟩) {a5 : Option Addr} {c5 : Nat} {t : TkV} (hg : X.grownBy X' (Value.slice (v.js.getD i default).ta (v.js.getD i default).tl (v.js.getD i default).tc).ownBlock) (ho : X'.ownsRow B 73 8 (.slice a5 ((v.js.getD i default).tl + 1) c5) ((v.js.getD i default).tl + 1) (flat TkV.cells ((v.js.getD i default).tasks ++ [t]))) (hat : (Value.slice a5 ((v.js.getD i default).tl + 1) c5).ownBlock = (Value.slice (v.js.getD i default).ta (v.js.getD i default).tl (v.js.getD i default).tc).ownBlock ∨ (Value.slice a5 ((v.js.getD i default).tl + 1) c5).ownBlock = some X.heap.size) :
    ∃ (k : Nat) (r : Rw), (∃ y, ix[i]? = some (k, y)) ∧ Clerk w (X'.setCell ⟨g, i * 6 + 2, none⟩ (.slice a5 ((v.js.getD i default).tl + 1) c5)) B q { v with js := v.js.set i (moreTask (v.js.getD i default) a5 c5 t) } ix (more.set k r) := by
  have hl := h.lens.1
  have hi' : i < v.js.length := by omega
  obtain ⟨x, ex, e1, e2⟩ := h.jobs.at hi'
  have h1 := h.held.grow (i := 4 + x.1) (r' := ⟨73, 8, .slice a5 ((v.js.getD i default).tl + 1) c5, (v.js.getD i default).tl + 1, flat TkV.cells ((v.js.getD i default).tasks ++ [t])⟩) (more_get e1) hg ho hat
  have hx1 : x.1 < more.length := (List.getElem?_eq_some_iff.1 e1).1
  have er : (v.rows ++ more).set (4 + x.1) ⟨73, 8, .slice a5 ((v.js.getD i default).tl + 1) c5, (v.js.getD i default).tl + 1, flat TkV.cells ((v.js.getD i default).tasks ++ [t])⟩ = v.rows ++ more.set x.1 ⟨73, 8, .slice a5 ((v.js.getD i default).tl + 1) c5, (v.js.getD i default).tl + 1, flat TkV.cells ((v.js.getD i default).tasks ++ [t])⟩ := by
    rw [List.set_append_right _ _ (by simp [CkV.rows])]
    congr 2
    simp [CkV.rows]
  rw [er] at h1
  have e0 : (v.rows ++ more.set x.1 ⟨73, 8, .slice a5 ((v.js.getD i default).tl + 1) c5, (v.js.getD i default).tl + 1, flat TkV.cells ((v.js.getD i default).tasks ++ [t])⟩)[0]? = some ⟨47, 6, .slice (some ⟨g, 0, none⟩) v.jl v.jc, v.jl, flat JbV.cells v.js⟩ := by rw [← eg]; rfl
  have h2 := h1.cell e0 (j := i * 6 + 2) (by omega) (.slice a5 ((v.js.getD i default).tl + 1) c5)
  rw [← flat_set6 v.js i (moreTask (v.js.getD i default) a5 c5 t) 2 (.slice a5 ((v.js.getD i default).tl + 1) c5) hi' (by decide) rfl] at h2
  refine ⟨x.1, ⟨73, 8, .slice a5 ((v.js.getD i default).tl + 1) c5, (v.js.getD i default).tl + 1, flat TkV.cells ((v.js.getD i default).tasks ++ [t])⟩, ⟨x.2, ex⟩, ?_, ?_, by simpa using hl, h.lens.2.1, h.lens.2.2.1, h.lens.2.2.2⟩
  · have er2 : ({ v with js := v.js.set i (moreTask (v.js.getD i default) a5 c5 t) } : CkV).rows ++ more.set x.1 ⟨73, 8, .slice a5 ((v.js.getD i default).tl + 1) c5, (v.js.getD i default).tl + 1, flat TkV.cells ((v.js.getD i default).tasks ++ [t])⟩ = (v.rows ++ more.set x.1 ⟨73, 8, .slice a5 ((v.js.getD i default).tl + 1) c5, (v.js.getD i default).tl + 1, flat TkV.cells ((v.js.getD i default).tasks ++ [t])⟩).set 0 ⟨47, 6, .slice (some ⟨g, 0, none⟩) v.jl v.jc, v.jl, flat JbV.cells (v.js.set i (moreTask (v.js.getD i default) a5 c5 t))⟩ := by rw [← eg]; rfl
    rw [er2]
    exact h2
  · obtain ⟨g1, g2, g3, g4⟩ := h.jobs
    have eo : v.js[i]? = some (v.js.getD i default) := by simp [List.getD, hi']
    refine ⟨by simpa using g1, fun k j y ej ey => ?_, g3, g4⟩
    rcases set_get eo ej with ⟨rfl, rfl⟩ | ⟨hk, ej⟩
    · rw [ex] at ey
      obtain rfl := Option.some.inj ey
      refine ⟨?_, ?_⟩
      · rw [List.getElem?_set_self hx1]; rfl
      · rw [List.getElem?_set_ne (g4 _ _ ex)]; exact e2
    · have ap := g3 i k x y ex ey (fun e => hk e.symm)
      have := g2 k j y ej ey
      refine ⟨?_, ?_⟩
      · rw [List.getElem?_set_ne ap.1]; exact this.1
      · rw [List.getElem?_set_ne ap.2.1]; exact this.2
end Go.Proofs.Ytfhciplckjkflaa.Co
/- The contract of the clerk's hands: the sites where tasks have left something. -/
namespace Go.Proofs.Ytfhciplckjkflaa.Co
open Go.ChangeShapes Go.WideShapes Go.ChangeAt Go.RowKit
open Go.Proofs.Ytfhciplckjkflaa.St (BoxN boxn_new own_below grown_setCell IsRow Elem flat flat_append own_isRow idxI idxI_lt own_setk)
set_option linter.unusedVariables false

/-- The first k sites that have a hand in it. -/
def handsTo (s : Int) (ls : List (Int × Int)) (p l : Int) (ts : List TkV) (k : Nat) : List Int := ((List.range k).map fun i : Nat => (i : Int)).filter fun site => ts.any (handAt s ls p l site)
def handsOf (s : Int) (ls : List (Int × Int)) (p l : Int) (ts : List TkV) : List Int := handsTo s ls p l ts s.toNat
theorem handsTo_succ (s : Int) (ls : List (Int × Int)) (p l : Int) (ts : List TkV) (k : Nat) : handsTo s ls p l ts (k + 1) = handsTo s ls p l ts k ++ if ts.any (handAt s ls p l (k : Int)) = true then [(k : Int)] else [] := by
  unfold handsTo
  rw [List.range_succ, List.map_append, List.filter_append]
  congr 1
  simp only [List.map_cons, List.map_nil, List.filter_cons, List.filter_nil]
theorem handsTo_len (s : Int) (ls : List (Int × Int)) (p l : Int) (ts : List TkV) (k : Nat) : (handsTo s ls p l ts k).length ≤ k := by
  unfold handsTo
  refine Nat.le_trans (List.length_filter_le _ _) ?_
  simp
def HandsIs (X X' : World) (ys : List Int) (e : Ending) : Prop := ∃ (a : Option Addr) (c : Nat), e = .returned (.slice a ys.length c) ∧ X'.ownsRow X.heap.size 3 1 (.slice a ys.length c) ys.length (flat inCell ys) ∧ Below X.heap.size X X'
theorem nA {W V : World} (h : Below W.heap.size W V) (ob : Obj) : Below W.heap.size W (V.alloc ob) := h.alloc h.size ob
theorem nD {W V : World} (h : Below W.heap.size W V) : Below W.heap.size W V.drew := h.drew
set_option maxRecDepth 100000 in
set_option maxHeartbeats 4000000 in
theorem hands_any {w : World} {B q : Nat} {v : CkV} {ix : List (Nat × Nat)} {more : List Rw} (X : World) (h : Clerk w X B q v ix more) (ls : List (Int × Int)) (hl : IsLabs X v.a v.len v.cap ls) (a : Option Addr) (n c : Nat) (ts : List TkV) (hT : IsTasks X a n c ts) (hs : v.s ≤ 1048576) :
    Calls Try.prog 55 #[.pointer (some ⟨q, 0, none⟩), .slice a n c] X fun e X' => HandsIs X X' (handsOf v.s ls v.p v.l ts) e := by
  obtain ⟨iI, EI⟩ := inElem
  obtain ⟨W, hW⟩ : ∃ W : World, W = X.alloc (.cells #[.pointer (some ⟨q, 0, none⟩)] 52) := ⟨_, rfl⟩
  have bW : Below X.heap.size X W := by rw [hW]; exact (Below.refl _ _).alloc (Nat.le_refl _) _
  have zW : X.heap.size < W.heap.size := by rw [hW]; simp
  have k0 : W.cell? ⟨X.heap.size, 0, none⟩ = some (.pointer (some ⟨q, 0, none⟩)) := by rw [hW]; go_simp
  have zq := h.held.box.lt
  have zqW : q < W.heap.size := by omega
  have q0 : X.cell? ⟨q, 0, none⟩ = some (.int .i64 v.s) := (h.held.box.c 0 (by decide)).1
  have KC : Hid (∀ U, Below W.heap.size W U → U.cell? ⟨X.heap.size, 0, none⟩ = some (.pointer (some ⟨q, 0, none⟩)) ∧ U.cell? ⟨q, 0, none⟩ = some (.int .i64 v.s)) := fun U hU => ⟨(hU.cell (p := ⟨X.heap.size, 0, none⟩) zW).trans k0, (hU.cell (p := ⟨q, 0, none⟩) zqW).trans ((bW.cell (p := ⟨q, 0, none⟩) zq).trans q0)⟩
  have HA : Hid (∀ (U : World) (bS : Nat) (site : Int), Below W.heap.size W U → U.cell? ⟨bS, 0, none⟩ = some (.int .i64 site) → bS < U.heap.size → Calls Try.prog 72 #[.slice a n c, .func (.func 74) #[] #[.pointer (some ⟨X.heap.size, 0, none⟩), .pointer (some ⟨bS, 0, none⟩)]] U fun e w' => e = .returned (.bool (ts.any (handAt v.s ls v.p v.l site))) ∧ Below U.heap.size U w') := fun U bS site hU cS zS => by
    have hv := bW.trans (hU.mono bW.size)
    exact containsTask_any _ _ _ a n c ts U (hT.below hv) (hand_asks U (h.below hv) ls (hl.below hv) X.heap.size bS site (KC.out U hU).1 (Nat.lt_of_lt_of_le zW hU.size) cS zS)
  have HT0 : Hid (handsOf v.s ls v.p v.l ts = handsTo v.s ls v.p v.l ts v.s.toNat) := rfl
  have HS1 : Hid (∀ k : Nat, handsTo v.s ls v.p v.l ts (k + 1) = handsTo v.s ls v.p v.l ts k ++ if ts.any (handAt v.s ls v.p v.l (k : Int)) = true then [(k : Int)] else []) := fun k => handsTo_succ _ _ _ _ _ k
  have HLN : Hid (∀ k : Nat, (handsTo v.s ls v.p v.l ts k).length ≤ k) := fun k => handsTo_len _ _ _ _ _ k
  have HZ : Hid (handsTo v.s ls v.p v.l ts 0 = []) := rfl
  obtain ⟨R, eR⟩ : ∃ R, R = handsOf v.s ls v.p v.l ts := ⟨_, rfl⟩
  rw [← eR] at HT0 ⊢
  obtain ⟨P, eP⟩ : ∃ P : Int → Bool, P = fun site => ts.any (handAt v.s ls v.p v.l site) := ⟨_, rfl⟩
  have HP : ∀ site, ts.any (handAt v.s ls v.p v.l site) = P site := fun site => by rw [eP]
  simp only [HP] at HA HS1
  obtain ⟨H, eH⟩ : ∃ H : Nat → List Int, H = handsTo v.s ls v.p v.l ts := ⟨_, rfl⟩
  rw [← eH] at HT0 HS1 HLN HZ
  obtain ⟨S, eS⟩ : ∃ S, S = v.s := ⟨_, rfl⟩
  rw [← eS] at KC HT0 hs
  clear eR eP HP eH eS h hl hT k0 q0
  obtain ⟨ck, cs0⟩ := KC.out _ (Below.refl _ _)
  go_enter Try.func55, Try.ntmps55
  go_upto_region 2 with (fail)
  rw [← hW]
  clear hW
  go_wp2
  clear ck cs0
  go_loopw [5, 12] (fun s5 s12 wr => ∃ (k : Nat) (a5 : Option Addr) (c5 m : Nat), s12 = .int .i64 (k : Int) ∧ s5 = .slice a5 m c5 ∧ (k : Int) ≤ max S 0 ∧ Hid (m = (H k).length) ∧ wr.ownsRow W.heap.size 3 1 (.slice a5 m c5) m (flat inCell (H k)) ∧ Below W.heap.size W wr) (fun _ s12 _ => S.toNat - (intOf s12).toNat)
  case atStart => exact ⟨0, none, 0, 0, rfl, rfl, by simp; omega, by show _ = _; rw [HZ.out]; rfl, by rw [HZ.out]; exact World.ownsRow_nil _ _ _ _, Below.refl _ _⟩
  case round =>
    obtain ⟨k, a5, c5, m, rfl, rfl, hk, hm, hown, hb⟩ := hrel
    obtain ⟨ck, cs0⟩ := KC.out _ hb
    have hmk : m ≤ k := by rw [hm.out]; exact HLN.out k
    by_cases hlt : (k : Int) < S
    · obtain ⟨V, eV⟩ : ∃ V : World, V = wr.alloc (.cells #[.int .i64 (k : Int)] 3) := ⟨_, rfl⟩
      have bV : Below wr.heap.size wr V := by rw [eV]; exact (Below.refl _ _).alloc (Nat.le_refl _) _
      have hbV : Below W.heap.size W V := hb.trans (bV.mono hb.size)
      have cS : V.cell? ⟨wr.heap.size, 0, none⟩ = some (.int .i64 (k : Int)) := by rw [eV]; go_simp
      have zS : wr.heap.size < V.heap.size := by rw [eV]; simp
      have ownV := own_below hown bV
      have zWr := hb.size
      have hH := HS1.out k
      have HC : Hid (∀ U, Below V.heap.size V U → Calls Try.prog 72 #[.slice a n c, .func (.func 74) #[] #[.pointer (some ⟨X.heap.size, 0, none⟩), .pointer (some ⟨wr.heap.size, 0, none⟩)]] U fun e w' => e = .returned (.bool (P (k : Int))) ∧ Below U.heap.size U w') := fun U hU => HA.out U wr.heap.size (k : Int) (hbV.trans (hU.mono hbV.size)) ((hU.cell (p := ⟨wr.heap.size, 0, none⟩) zS).trans cS) (Nat.lt_of_lt_of_le zS hU.size)
      go_upto_region 5 with (fail)
      rw [← eV]
      clear eV
      obtain ⟨PK, ePK⟩ : ∃ b, b = P (k : Int) := ⟨_, rfl⟩
      rw [← ePK] at HC hH
      have HHH : Hid (H (k + 1) = H k ++ if PK = true then [(k : Int)] else []) := hH
      clear ePK hH
      cases PK with
      | false =>
        have HE : Hid (H (k + 1) = H k) := by show _ = _; rw [HHH.out]; simp
        clear HHH
        go_wp2_with (go_at_call 72; refine (HC.out _ (by (with_reducible repeat (first | exact Below.refl _ _ | refine nD ?_ | refine nA ?_ _)); done)).mono ?_; rintro e w1 ⟨rfl, hb1⟩)
        go_roundw
        case rel => exact ⟨k + 1, a5, c5, m, by go_num, rfl, by omega, by show _ = _; rw [HE.out]; exact hm.out, by rw [HE.out]; exact own_below ownV hb1, hbV.trans (hb1.mono hbV.size)⟩
        case measure => simp [intOf]; omega
      | true =>
        have HE : Hid (H (k + 1) = H k ++ [(k : Int)]) := by show _ = _; rw [HHH.out]; simp
        clear HHH
        go_upto_region 6 with (go_at_call 72; refine (HC.out _ (by (with_reducible repeat (first | exact Below.refl _ _ | refine nD ?_ | refine nA ?_ _)); done)).mono ?_; rintro e w1 ⟨rfl, hb1⟩)
        have own1 := own_below ownV hb1
        have cS1 := (hb1.cell (p := ⟨wr.heap.size, 0, none⟩) zS).trans cS
        have hbW1 : Below W.heap.size W w1 := hbV.trans (hb1.mono hbV.size)
        have zW1 := hbW1.size
        have HOWN : Hid (∀ U, Below w1.heap.size w1 U → U.ownsRow W.heap.size 3 1 (.slice a5 m c5) m (flat inCell (H k))) := fun U hU => own_below own1 hU
        have zw1 : wr.heap.size < w1.heap.size := Nat.lt_of_lt_of_le zS hb1.size
        clear cS zS hown ownV
        go_wp2_with (at_builtin; go_loud (refine St.wpList_append_row EI (by rfl) _ _ (by rfl) W.heap.size (.slice a5 m c5) m (H k) (by rfl) (HOWN.out _ (by (with_reducible repeat (first | exact Below.refl _ _ | refine nD ?_ | refine nA ?_ _)); done)) _ 1 1 [(k : Int)] (by rfl) (rowOne _ _ _ _ rfl rfl) (by unfold maxLen; omega) (by omega) (by simp; omega) ?_; intro a6 c6 w5 own5 gr5 at5; have hb5 : Below W.heap.size W w5 := Below.grown (hbW1.trans (Below.mono (by (with_reducible repeat (first | exact Below.refl _ _ | refine nD ?_ | refine nA ?_ _)); done) zW1)) gr5 (by simp; omega) (fun q hq => (own1.lt q hq).1)))
        go_roundw
        case rel => exact ⟨k + 1, a6, c6, m + 1, by go_num, rfl, by omega, by show _ = _; rw [HE.out]; simp [hm.out], by rw [HE.out]; exact own5, hb5⟩
        case measure => simp [intOf]; omega
    · have HR : Hid (R = H k) := by show _ = _; rw [HT0.out]; congr 1; omega
      go_wp2
      go_ret
      rw [HR.out]
      refine ⟨a5, c5, by rw [← hm.out]; rfl, ?_, bW.trans (hb.mono bW.size)⟩
      rw [← hm.out]
      exact own_base hown bW.size
end Go.Proofs.Ytfhciplckjkflaa.Co
