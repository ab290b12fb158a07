/- Texts of this claim, one behind the other. -/
import Derived.Test.YtdjnaahkcnklhabDoorM16CommitAsks
import Derived.Test.YtdjnaahkcnklhabDoorM14CommitAsks
import Derived.Test.YtdjnaahkcnklhabDoorM8CommitAsks
import Derived.Deep.RegionLaw
import Derived.Test.YtdjnaahkcnklhabDoorM13CommitAsks
/- A job's task row grows by one task, and the job is told of it. -/
namespace Go.Proofs.YtdjnaahkcnklhabDoor.Co
open Go.ChangeShapes Go.WideShapes Go.ChangeAt Go.RowKit
open Go.Proofs.YtdjnaahkcnklhabDoor.St (BoxN boxn_new own_below grown_setCell IsRow Elem flat flat_append own_isRow)
set_option linter.unusedVariables false

def moreTask (j : JbV) (a5 : Option Addr) (c5 : Nat) (t : TkV) : JbV := { j with ta := a5, tl := j.tl + 1, tc := c5, tasks := j.tasks ++ [t] }
theorem Clerk.task {w X X' : World} {B q : Nat} {v : CkV} {ix : List (Nat × Nat)} {more : List Rw} (h : Clerk w X B q v ix more) {i g : Nat} (hi : i < v.jl) (eg : v.ja = some ⟨g, 0, none⟩) {a5 : Option Addr} {c5 : Nat} {t : TkV} (hg : X.grownBy X' (Value.slice (v.js.getD i default).ta (v.js.getD i default).tl (v.js.getD i default).tc).ownBlock) (ho : X'.ownsRow B 87 8 (.slice a5 ((v.js.getD i default).tl + 1) c5) ((v.js.getD i default).tl + 1) (flat TkV.cells ((v.js.getD i default).tasks ++ [t]))) (hat : (Value.slice a5 ((v.js.getD i default).tl + 1) c5).ownBlock = (Value.slice (v.js.getD i default).ta (v.js.getD i default).tl (v.js.getD i default).tc).ownBlock ∨ (Value.slice a5 ((v.js.getD i default).tl + 1) c5).ownBlock = some X.heap.size) :
    ∃ (k : Nat) (r : Rw), (∃ y, ix[i]? = some (k, y)) ∧ Clerk w (X'.setCell ⟨g, i * 6 + 2, none⟩ (.slice a5 ((v.js.getD i default).tl + 1) c5)) B q { v with js := v.js.set i (moreTask (v.js.getD i default) a5 c5 t) } ix (more.set k r) := by
  have hl := h.lens.1
  have hi' : i < v.js.length := by omega
  obtain ⟨x, ex, e1, e2⟩ := h.jobs.at hi'
  have h1 := h.held.grow (i := 4 + x.1) (r' := ⟨87, 8, .slice a5 ((v.js.getD i default).tl + 1) c5, (v.js.getD i default).tl + 1, flat TkV.cells ((v.js.getD i default).tasks ++ [t])⟩) (more_get e1) hg ho hat
  have hx1 : x.1 < more.length := (List.getElem?_eq_some_iff.1 e1).1
  have er : (v.rows ++ more).set (4 + x.1) ⟨87, 8, .slice a5 ((v.js.getD i default).tl + 1) c5, (v.js.getD i default).tl + 1, flat TkV.cells ((v.js.getD i default).tasks ++ [t])⟩ = v.rows ++ more.set x.1 ⟨87, 8, .slice a5 ((v.js.getD i default).tl + 1) c5, (v.js.getD i default).tl + 1, flat TkV.cells ((v.js.getD i default).tasks ++ [t])⟩ := by
    rw [List.set_append_right _ _ (by simp [CkV.rows])]
    congr 2
    simp [CkV.rows]
  rw [er] at h1
  have e0 : (v.rows ++ more.set x.1 ⟨87, 8, .slice a5 ((v.js.getD i default).tl + 1) c5, (v.js.getD i default).tl + 1, flat TkV.cells ((v.js.getD i default).tasks ++ [t])⟩)[0]? = some ⟨59, 6, .slice (some ⟨g, 0, none⟩) v.jl v.jc, v.jl, flat JbV.cells v.js⟩ := by rw [← eg]; rfl
  have h2 := h1.cell e0 (j := i * 6 + 2) (by omega) (.slice a5 ((v.js.getD i default).tl + 1) c5)
  rw [← flat_set6 v.js i (moreTask (v.js.getD i default) a5 c5 t) 2 (.slice a5 ((v.js.getD i default).tl + 1) c5) hi' (by decide) rfl] at h2
  refine ⟨x.1, ⟨87, 8, .slice a5 ((v.js.getD i default).tl + 1) c5, (v.js.getD i default).tl + 1, flat TkV.cells ((v.js.getD i default).tasks ++ [t])⟩, ⟨x.2, ex⟩, ?_, ?_, by simpa using hl, h.lens.2.1, h.lens.2.2.1, h.lens.2.2.2⟩
  · have er2 : ({ v with js := v.js.set i (moreTask (v.js.getD i default) a5 c5 t) } : CkV).rows ++ more.set x.1 ⟨87, 8, .slice a5 ((v.js.getD i default).tl + 1) c5, (v.js.getD i default).tl + 1, flat TkV.cells ((v.js.getD i default).tasks ++ [t])⟩ = (v.rows ++ more.set x.1 ⟨87, 8, .slice a5 ((v.js.getD i default).tl + 1) c5, (v.js.getD i default).tl + 1, flat TkV.cells ((v.js.getD i default).tasks ++ [t])⟩).set 0 ⟨59, 6, .slice (some ⟨g, 0, none⟩) v.jl v.jc, v.jl, flat JbV.cells (v.js.set i (moreTask (v.js.getD i default) a5 c5 t))⟩ := by rw [← eg]; rfl
    rw [er2]
    exact h2
  · obtain ⟨g1, g2, g3, g4⟩ := h.jobs
    have eo : v.js[i]? = some (v.js.getD i default) := by simp [List.getD, hi']
    refine ⟨by simpa using g1, fun k j y ej ey => ?_, g3, g4⟩
    rcases set_get eo ej with ⟨rfl, rfl⟩ | ⟨hk, ej⟩
    · rw [ex] at ey
      obtain rfl := Option.some.inj ey
      refine ⟨?_, ?_⟩
      · rw [List.getElem?_set_self hx1]; rfl
      · rw [List.getElem?_set_ne (g4 _ _ ex)]; exact e2
    · have ap := g3 i k x y ex ey (fun e => hk e.symm)
      have := g2 k j y ej ey
      refine ⟨?_, ?_⟩
      · rw [List.getElem?_set_ne ap.1]; exact this.1
      · rw [List.getElem?_set_ne ap.2.1]; exact this.2
end Go.Proofs.YtdjnaahkcnklhabDoor.Co
/- The contract of the clerk's hands: the sites where tasks have left something. -/
namespace Go.Proofs.YtdjnaahkcnklhabDoor.Co
open Go.ChangeShapes Go.WideShapes Go.ChangeAt Go.RowKit
open Go.Proofs.YtdjnaahkcnklhabDoor.St (BoxN boxn_new own_below grown_setCell IsRow Elem flat flat_append own_isRow idxI idxI_lt own_setk)
set_option linter.unusedVariables false

/-- The first k sites that have a hand in it. -/
def handsTo (s : Int) (ls : List (Int × Int)) (p l : Int) (ts : List TkV) (k : Nat) : List Int := ((List.range k).map fun i : Nat => (i : Int)).filter fun site => ts.any (handAt s ls p l site)
def handsOf (s : Int) (ls : List (Int × Int)) (p l : Int) (ts : List TkV) : List Int := handsTo s ls p l ts s.toNat
theorem handsTo_succ (s : Int) (ls : List (Int × Int)) (p l : Int) (ts : List TkV) (k : Nat) : handsTo s ls p l ts (k + 1) = handsTo s ls p l ts k ++ if ts.any (handAt s ls p l (k : Int)) = true then [(k : Int)] else [] := by
  unfold handsTo
  rw [List.range_succ, List.map_append, List.filter_append]
  congr 1
  simp only [List.map_cons, List.map_nil, List.filter_cons, List.filter_nil]
theorem handsTo_len (s : Int) (ls : List (Int × Int)) (p l : Int) (ts : List TkV) (k : Nat) : (handsTo s ls p l ts k).length ≤ k := by
  unfold handsTo
  refine Nat.le_trans (List.length_filter_le _ _) ?_
  simp
def HandsIs (X X' : World) (ys : List Int) (e : Ending) : Prop := ∃ (a : Option Addr) (c : Nat), e = .returned (.slice a ys.length c) ∧ X'.ownsRow X.heap.size 3 1 (.slice a ys.length c) ys.length (flat inCell ys) ∧ Below X.heap.size X X'
theorem nA {W V : World} (h : Below W.heap.size W V) (ob : Obj) : Below W.heap.size W (V.alloc ob) := h.alloc h.size ob
theorem nD {W V : World} (h : Below W.heap.size W V) : Below W.heap.size W V.drew := h.drew
set_option maxRecDepth 100000 in
set_option maxHeartbeats 4000000 in
theorem hands_any {w : World} {B q : Nat} {v : CkV} {ix : List (Nat × Nat)} {more : List Rw} (X : World) (h : Clerk w X B q v ix more) (ls : List (Int × Int)) (hl : IsLabs X v.a v.len v.cap ls) (a : Option Addr) (n c : Nat) (ts : List TkV) (hT : IsTasks X a n c ts) (hs : v.s ≤ 1048576) :
    Calls Tryd.prog 54 #[.pointer (some ⟨q, 0, none⟩), .slice a n c] X fun e X' => HandsIs X X' (handsOf v.s ls v.p v.l ts) e := by
  obtain ⟨iI, EI⟩ := inElem
  obtain ⟨W, hW⟩ : ∃ W : World, W = X.alloc (.cells #[.pointer (some ⟨q, 0, none⟩)] 69) := ⟨_, rfl⟩
  have bW : Below X.heap.size X W := by rw [hW]; exact (Below.refl _ _).alloc (Nat.le_refl _) _
  have zW : X.heap.size < W.heap.size := by rw [hW]; simp
  have k0 : W.cell? ⟨X.heap.size, 0, none⟩ = some (.pointer (some ⟨q, 0, none⟩)) := by rw [hW]; go_simp
  have zq := h.held.box.lt
  have zqW : q < W.heap.size := by omega
  have q0 : X.cell? ⟨q, 0, none⟩ = some (.int .i64 v.s) := (h.held.box.c 0 (by decide)).1
  have KC : Hid (∀ U, Below W.heap.size W U → U.cell? ⟨X.heap.size, 0, none⟩ = some (.pointer (some ⟨q, 0, none⟩)) ∧ U.cell? ⟨q, 0, none⟩ = some (.int .i64 v.s)) := fun U hU => ⟨(hU.cell (p := ⟨X.heap.size, 0, none⟩) zW).trans k0, (hU.cell (p := ⟨q, 0, none⟩) zqW).trans ((bW.cell (p := ⟨q, 0, none⟩) zq).trans q0)⟩
  have HA : Hid (∀ (U : World) (bS : Nat) (site : Int), Below W.heap.size W U → U.cell? ⟨bS, 0, none⟩ = some (.int .i64 site) → bS < U.heap.size → Calls Tryd.prog 61 #[.slice a n c, .func (.func 75) #[] #[.pointer (some ⟨X.heap.size, 0, none⟩), .pointer (some ⟨bS, 0, none⟩)]] U fun e w' => e = .returned (.bool (ts.any (handAt v.s ls v.p v.l site))) ∧ Below U.heap.size U w') := fun U bS site hU cS zS => by
    have hv := bW.trans (hU.mono bW.size)
    exact containsTask_any _ _ _ a n c ts U (hT.below hv) (hand_asks U (h.below hv) ls (hl.below hv) X.heap.size bS site (KC.out U hU).1 (Nat.lt_of_lt_of_le zW hU.size) cS zS)
  have HT0 : Hid (handsOf v.s ls v.p v.l ts = handsTo v.s ls v.p v.l ts v.s.toNat) := rfl
  have HS1 : Hid (∀ k : Nat, handsTo v.s ls v.p v.l ts (k + 1) = handsTo v.s ls v.p v.l ts k ++ if ts.any (handAt v.s ls v.p v.l (k : Int)) = true then [(k : Int)] else []) := fun k => handsTo_succ _ _ _ _ _ k
  have HLN : Hid (∀ k : Nat, (handsTo v.s ls v.p v.l ts k).length ≤ k) := fun k => handsTo_len _ _ _ _ _ k
  have HZ : Hid (handsTo v.s ls v.p v.l ts 0 = []) := rfl
  obtain ⟨R, eR⟩ : ∃ R, R = handsOf v.s ls v.p v.l ts := ⟨_, rfl⟩
  rw [← eR] at HT0 ⊢
  obtain ⟨P, eP⟩ : ∃ P : Int → Bool, P = fun site => ts.any (handAt v.s ls v.p v.l site) := ⟨_, rfl⟩
  have HP : ∀ site, ts.any (handAt v.s ls v.p v.l site) = P site := fun site => by rw [eP]
  simp only [HP] at HA HS1
  obtain ⟨H, eH⟩ : ∃ H : Nat → List Int, H = handsTo v.s ls v.p v.l ts := ⟨_, rfl⟩
  rw [← eH] at HT0 HS1 HLN HZ
  obtain ⟨S, eS⟩ : ∃ S, S = v.s := ⟨_, rfl⟩
  rw [← eS] at KC HT0 hs
  clear eR eP HP eH eS h hl hT k0 q0
  obtain ⟨ck, cs0⟩ := KC.out _ (Below.refl _ _)
  go_enter Tryd.func54, Tryd.ntmps54
  go_upto_region 2 with (fail)
  rw [← hW]
  clear hW
  go_wp2
  clear ck cs0
  go_loopw [5, 12] (fun s5 s12 wr => ∃ (k : Nat) (a5 : Option Addr) (c5 m : Nat), s12 = .int .i64 (k : Int) ∧ s5 = .slice a5 m c5 ∧ (k : Int) ≤ max S 0 ∧ Hid (m = (H k).length) ∧ wr.ownsRow W.heap.size 3 1 (.slice a5 m c5) m (flat inCell (H k)) ∧ Below W.heap.size W wr) (fun _ s12 _ => S.toNat - (intOf s12).toNat)
  case atStart => exact ⟨0, none, 0, 0, rfl, rfl, by simp; omega, by show _ = _; rw [HZ.out]; rfl, by rw [HZ.out]; exact World.ownsRow_nil _ _ _ _, Below.refl _ _⟩
  case round =>
    obtain ⟨k, a5, c5, m, rfl, rfl, hk, hm, hown, hb⟩ := hrel
    obtain ⟨ck, cs0⟩ := KC.out _ hb
    have hmk : m ≤ k := by rw [hm.out]; exact HLN.out k
    by_cases hlt : (k : Int) < S
    · obtain ⟨V, eV⟩ : ∃ V : World, V = wr.alloc (.cells #[.int .i64 (k : Int)] 3) := ⟨_, rfl⟩
      have bV : Below wr.heap.size wr V := by rw [eV]; exact (Below.refl _ _).alloc (Nat.le_refl _) _
      have hbV : Below W.heap.size W V := hb.trans (bV.mono hb.size)
      have cS : V.cell? ⟨wr.heap.size, 0, none⟩ = some (.int .i64 (k : Int)) := by rw [eV]; go_simp
      have zS : wr.heap.size < V.heap.size := by rw [eV]; simp
      have ownV := own_below hown bV
      have zWr := hb.size
      have hH := HS1.out k
      have HC : Hid (∀ U, Below V.heap.size V U → Calls Tryd.prog 61 #[.slice a n c, .func (.func 75) #[] #[.pointer (some ⟨X.heap.size, 0, none⟩), .pointer (some ⟨wr.heap.size, 0, none⟩)]] U fun e w' => e = .returned (.bool (P (k : Int))) ∧ Below U.heap.size U w') := fun U hU => HA.out U wr.heap.size (k : Int) (hbV.trans (hU.mono hbV.size)) ((hU.cell (p := ⟨wr.heap.size, 0, none⟩) zS).trans cS) (Nat.lt_of_lt_of_le zS hU.size)
      go_upto_region 5 with (fail)
      rw [← eV]
      clear eV
      obtain ⟨PK, ePK⟩ : ∃ b, b = P (k : Int) := ⟨_, rfl⟩
      rw [← ePK] at HC hH
      have HHH : Hid (H (k + 1) = H k ++ if PK = true then [(k : Int)] else []) := hH
      clear ePK hH
      cases PK with
      | false =>
        have HE : Hid (H (k + 1) = H k) := by show _ = _; rw [HHH.out]; simp
        clear HHH
        go_wp2_with (go_at_call 61; refine (HC.out _ (by (with_reducible repeat (first | exact Below.refl _ _ | refine nD ?_ | refine nA ?_ _)); done)).mono ?_; rintro e w1 ⟨rfl, hb1⟩)
        go_roundw
        case rel => exact ⟨k + 1, a5, c5, m, by go_num, rfl, by omega, by show _ = _; rw [HE.out]; exact hm.out, by rw [HE.out]; exact own_below ownV hb1, hbV.trans (hb1.mono hbV.size)⟩
        case measure => simp [intOf]; omega
      | true =>
        have HE : Hid (H (k + 1) = H k ++ [(k : Int)]) := by show _ = _; rw [HHH.out]; simp
        clear HHH
        go_upto_region 6 with (go_at_call 61; refine (HC.out _ (by (with_reducible repeat (first | exact Below.refl _ _ | refine nD ?_ | refine nA ?_ _)); done)).mono ?_; rintro e w1 ⟨rfl, hb1⟩)
        have own1 := own_below ownV hb1
        have cS1 := (hb1.cell (p := ⟨wr.heap.size, 0, none⟩) zS).trans cS
        have hbW1 : Below W.heap.size W w1 := hbV.trans (hb1.mono hbV.size)
        have zW1 := hbW1.size
        have HOWN : Hid (∀ U, Below w1.heap.size w1 U → U.ownsRow W.heap.size 3 1 (.slice a5 m c5) m (flat inCell (H k))) := fun U hU => own_below own1 hU
        have zw1 : wr.heap.size < w1.heap.size := Nat.lt_of_lt_of_le zS hb1.size
        clear cS zS hown ownV
        go_wp2_with (at_builtin; go_loud (refine St.wpList_append_row EI (by rfl) _ _ (by rfl) W.heap.size (.slice a5 m c5) m (H k) (by rfl) (HOWN.out _ (by (with_reducible repeat (first | exact Below.refl _ _ | refine nD ?_ | refine nA ?_ _)); done)) _ 1 1 [(k : Int)] (by rfl) (rowOne _ _ _ _ rfl rfl) (by unfold maxLen; omega) (by omega) (by simp; omega) ?_; intro a6 c6 w5 own5 gr5 at5; have hb5 : Below W.heap.size W w5 := Below.grown (hbW1.trans (Below.mono (by (with_reducible repeat (first | exact Below.refl _ _ | refine nD ?_ | refine nA ?_ _)); done) zW1)) gr5 (by simp; omega) (fun q hq => (own1.lt q hq).1)))
        go_roundw
        case rel => exact ⟨k + 1, a6, c6, m + 1, by go_num, rfl, by omega, by show _ = _; rw [HE.out]; simp [hm.out], by rw [HE.out]; exact own5, hb5⟩
        case measure => simp [intOf]; omega
    · have HR : Hid (R = H k) := by show _ = _; rw [HT0.out]; congr 1; omega
      go_wp2
      go_ret
      rw [HR.out]
      refine ⟨a5, c5, by rw [← hm.out]; rfl, ?_, bW.trans (hb.mono bW.size)⟩
      rw [← hm.out]
      exact own_base hown bW.size
end Go.Proofs.YtdjnaahkcnklhabDoor.Co
/- The clerk's end: who has something of a job lets it go, and it is dropped; and tell. -/
namespace Go.Proofs.YtdjnaahkcnklhabDoor.Co
open Go.ChangeShapes Go.WideShapes Go.ChangeAt Go.RowKit
open Go.Proofs.YtdjnaahkcnklhabDoor.St (BoxN boxn_new own_below grown_setCell IsRow Elem flat flat_append own_isRow idxI idxI_lt own_setk)
set_option linter.unusedVariables false

/-- A box is a row of one. -/
theorem box_row (X : World) (cs : Array Value) (t : TypeId) (k : Nat) (hk : cs.size = k) : (X.alloc (.cells cs t)).ownsRow X.heap.size t k (.slice (some ⟨X.heap.size, 0, none⟩) 1 1) 1 cs.toList := by
  refine ⟨by simp [hk], Or.inr ⟨X.heap.size, 1, cs, rfl, Nat.le_refl _, heap_alloc_new X _, Nat.le_refl _, by unfold maxLen; omega, by omega, ?_⟩⟩
  rw [Nat.one_mul, List.take_of_length_le (by simp [hk])]
theorem JobsIn.more {js : List JbV} {ix : List (Nat × Nat)} {more : List Rw} (h : JobsIn js ix more) (r : Rw) : JobsIn js ix (more ++ [r]) := by
  obtain ⟨h1, h2, h3, h4⟩ := h
  have up : ∀ {k : Nat} {s : Rw}, more[k]? = some s → (more ++ [r])[k]? = some s := fun {k s} e => by
    rw [List.getElem?_append_left (List.getElem?_eq_some_iff.1 e).1]; exact e
  exact ⟨h1, fun i j x e1 e2 => ⟨up (h2 i j x e1 e2).1, up (h2 i j x e1 e2).2⟩, h3, h4⟩
/-- A row that was made besides. -/
theorem Clerk.add {w X X' : World} {B q : Nat} {v : CkV} {ix : List (Nat × Nat)} {more : List Rw} (h : Clerk w X B q v ix more) (hb : Below X.heap.size X X') {r : Rw} (ho : X'.ownsRow X.heap.size r.te r.k r.v r.n r.xs) : Clerk w X' B q v ix (more ++ [r]) := by
  refine ⟨?_, h.jobs.more r, h.lens⟩
  rw [← List.append_assoc]
  exact h.held.add hb ho
theorem own_at {w : World} {B : Nat} {te : TypeId} {k g n cap : Nat} {xs : List Value} (h : w.ownsRow B te k (.slice (some ⟨g, 0, none⟩) n cap) n xs) {j : Nat} (hj : j < n * k) : w.cell? ⟨g, j, none⟩ = xs[j]? ∧ g < w.heap.size := by
  refine ⟨?_, (h.lt g rfl).2⟩
  rcases h.2 with ⟨hv, h0⟩ | ⟨g', cap', cur, hv, hb, hc, h1, h2, h3, h4⟩
  · simp at hv
  · simp at hv
    obtain ⟨rfl, rfl⟩ := hv
    rw [cell_of_row w g j cur te (0, 0) hc, ← h4, List.getElem?_take_of_lt hj, Array.getElem?_toList]
/-- What a site is told of a job's end. -/
def decM (me n : Int) (yes : Bool) (site : Int) : MV := ⟨4, me, site, me, n, 0, 0, 0, 0, 0, yes, 0⟩
def toldV (v : CkV) (ma : Option Addr) (mc : Nat) (n : Int) (yes : Bool) (zs : List Int) : CkV := { v with ma := ma, ml := v.ml + zs.length, mc := mc, ms := v.ms ++ zs.map (decM v.me n yes) }
def EndIs (w X' : World) (B q : Nat) (v : CkV) (n : Int) (zs : List Int) (e : Ending) : Prop := e = .returned (.tuple #[]) ∧ ∃ (ma : Option Addr) (mc : Nat) (ix : List (Nat × Nat)) (more : List Rw), Clerk w X' B q { toldV v ma mc n false zs with jl := (kept n v.js).length, js := kept n v.js } ix more
theorem toldV_ml (v : CkV) (ma : Option Addr) (mc : Nat) (n : Int) (yes : Bool) (zs : List Int) : (toldV v ma mc n yes zs).ml = v.ml + zs.length := rfl
theorem fit_nat {a b c : Nat} (e : a = b + c) (hn : (b + 1048577) * 96 ≤ 140737488355328) (hz : c ≤ 1048576) : (a + 1) * 96 ≤ 140737488355328 := by omega
theorem told_fit {v : CkV} {ma : Option Addr} {mc : Nat} {n : Int} {yes : Bool} {zs : List Int} (hn : (v.ml + 1048577) * 96 ≤ 140737488355328) (hz : zs.length ≤ 1048576) : ((toldV v ma mc n yes zs).ml + 1) * 96 ≤ 140737488355328 := fit_nat (toldV_ml v ma mc n yes zs) hn hz
theorem take_map_at {zs : List Int} {k : Nat} (hk : k < zs.length) (f : Int → MV) : (zs.take (k + 1)).map f = (zs.take k).map f ++ [f (zs.getD k default)] := by
  rw [List.take_add_one, List.map_append]
  simp [List.getD, hk]
/-- One more is told. -/
theorem toldV_at {v : CkV} {ma m5 : Option Addr} {mc c5 : Nat} {n : Int} {yes : Bool} {zs : List Int} {k : Nat} (hk : k < zs.length) : ({ toldV v ma mc n yes (zs.take k) with ma := m5, ml := (toldV v ma mc n yes (zs.take k)).ml + 1, mc := c5, ms := (toldV v ma mc n yes (zs.take k)).ms ++ [decM v.me n yes (zs.getD k default)] } : CkV) = toldV v m5 c5 n yes (zs.take (k + 1)) := by
  unfold toldV
  simp only [take_map_at hk, List.append_assoc]
  have e1 : (zs.take k).length = k := by simp; omega
  have e2 : (zs.take (k + 1)).length = k + 1 := by simp; omega
  rw [e1, e2]
  rfl
set_option maxRecDepth 100000 in
set_option maxHeartbeats 4000000 in
theorem end_any {w : World} {B q : Nat} {v : CkV} {ix : List (Nat × Nat)} {more : List Rw} (X : World) (h : Clerk w X B q v ix more) (ls : List (Int × Int)) (hl : IsLabs X v.a v.len v.cap ls) (j : JbV) (hT : IsTasks X j.ta j.tl j.tc j.tasks) (hs : v.s ≤ 1048576) (hn : (v.ml + 1048577) * 96 ≤ 140737488355328) :
    Calls Tryd.prog 27 #[.pointer (some ⟨q, 0, none⟩), j.val] X fun e X' => EndIs w X' B q v j.n (handsOf v.s ls v.p v.l j.tasks) e := by
  obtain ⟨jn, st, ta, tl, tc, aa, al, ac, asks, age, tasks, asked⟩ := j
  simp only [JbV.val] at hT ⊢
  obtain ⟨W, hW⟩ : ∃ W : World, W = X.alloc (.cells #[.int .i64 jn, .int .i64 st, .slice ta tl tc, .slice aa al ac, .int .i64 asks, .int .i64 age] 59) := ⟨_, rfl⟩
  have bW : Below X.heap.size X W := by rw [hW]; exact (Below.refl _ _).alloc (Nat.le_refl _) _
  have c0 : W.cell? ⟨X.heap.size, 0, none⟩ = some (.int .i64 jn) := by rw [hW]; go_simp
  have c2 : W.cell? ⟨X.heap.size, 2, none⟩ = some (.slice ta tl tc) := by rw [hW]; go_simp
  have zW : X.heap.size < W.heap.size := by rw [hW]; simp
  have hCW : Clerk w W B q v ix (more ++ [⟨59, 6, .slice (some ⟨X.heap.size, 0, none⟩) 1 1, 1, [.int .i64 jn, .int .i64 st, .slice ta tl tc, .slice aa al ac, .int .i64 asks, .int .i64 age]⟩]) := h.add bW (by rw [hW]; exact box_row X _ _ 6 rfl)
  have HH : Hid (Calls Tryd.prog 54 #[.pointer (some ⟨q, 0, none⟩), .slice ta tl tc] W fun e X' => HandsIs W X' (handsOf v.s ls v.p v.l tasks) e) := hands_any W hCW ls (hl.below bW) ta tl tc tasks (hT.below bW) hs
  have HL : Hid ((handsOf v.s ls v.p v.l tasks).length ≤ 1048576) := by
    have := handsTo_len v.s ls v.p v.l tasks v.s.toNat
    show _ ≤ _
    unfold handsOf
    omega
  obtain ⟨R, eR⟩ : ∃ R, R = handsOf v.s ls v.p v.l tasks := ⟨_, rfl⟩
  rw [← eR] at HH HL ⊢
  have Hn : Hid ((v.ml + 1048577) * 96 ≤ 140737488355328) := hn
  clear eR h hl hT hn hs
  go_enter Tryd.func27, Tryd.ntmps27
  go_upto_region 1 with (fail)
  rw [← hW]
  clear hW
  go_wp2_with (go_at_call 54; refine HH.out.mono ?_; rintro e w1 ⟨ha, hc, rfl, hown, hb1⟩)
  have hC1 := hCW.add (r := ⟨3, 1, .slice ha R.length hc, R.length, flat inCell R⟩) hb1 hown
  have HRow : Hid (∀ (U : World) (u : CkV), Clerk w U B q u ix ((more ++ [⟨59, 6, .slice (some ⟨X.heap.size, 0, none⟩) 1 1, 1, [.int .i64 jn, .int .i64 st, .slice ta tl tc, .slice aa al ac, .int .i64 asks, .int .i64 age]⟩]) ++ [⟨3, 1, .slice ha R.length hc, R.length, flat inCell R⟩]) → (U.cell? ⟨X.heap.size, 0, none⟩ = some (.int .i64 jn) ∧ X.heap.size < U.heap.size) ∧ U.ownsRow B 3 1 (.slice ha R.length hc) R.length (flat inCell R)) := fun U u hU => by
    have e1 : ((more ++ [⟨59, 6, .slice (some ⟨X.heap.size, 0, none⟩) 1 1, 1, [.int .i64 jn, .int .i64 st, .slice ta tl tc, .slice aa al ac, .int .i64 asks, .int .i64 age]⟩]) ++ [(⟨3, 1, .slice ha R.length hc, R.length, flat inCell R⟩ : Rw)])[more.length]? = some ⟨59, 6, .slice (some ⟨X.heap.size, 0, none⟩) 1 1, 1, [.int .i64 jn, .int .i64 st, .slice ta tl tc, .slice aa al ac, .int .i64 asks, .int .i64 age]⟩ := by simp
    have e2 : ((more ++ [⟨59, 6, .slice (some ⟨X.heap.size, 0, none⟩) 1 1, 1, [.int .i64 jn, .int .i64 st, .slice ta tl tc, .slice aa al ac, .int .i64 asks, .int .i64 age]⟩]) ++ [(⟨3, 1, .slice ha R.length hc, R.length, flat inCell R⟩ : Rw)])[more.length + 1]? = some ⟨3, 1, .slice ha R.length hc, R.length, flat inCell R⟩ := by simp
    have o1 := hU.held.own.own _ _ (more_get e1)
    exact ⟨by simpa using own_at o1 (j := 0) (by show 0 < 1 * 6; decide), hU.held.own.own _ _ (more_get e2)⟩
  obtain ⟨M, eM⟩ : ∃ M, M = ((more ++ [⟨59, 6, .slice (some ⟨X.heap.size, 0, none⟩) 1 1, 1, [.int .i64 jn, .int .i64 st, .slice ta tl tc, .slice aa al ac, .int .i64 asks, .int .i64 age]⟩]) ++ [(⟨3, 1, .slice ha R.length hc, R.length, flat inCell R⟩ : Rw)]) := ⟨_, rfl⟩
  rw [← eM] at hC1 HRow
  clear eM hCW HH hown c0 c2
  obtain ⟨N, eN⟩ : ∃ N, N = R.length := ⟨_, rfl⟩
  have HN : Hid (N = R.length) := eN
  rw [← eN] at HRow HL ⊢
  clear eN
  have hN := HL.out
  go_loopw [11] (fun s11 wr => ∃ (k : Nat) (m1 : Option Addr) (k1 : Nat), s11 = .int .i64 (k : Int) ∧ k ≤ N ∧ Clerk w wr B q (toldV v m1 k1 jn false (R.take k)) ix M) (fun s11 _ => N - (intOf s11).toNat)
  case atStart => exact ⟨0, v.ma, v.mc, rfl, Nat.zero_le _, by simpa [toldV] using hC1⟩
  case round =>
    obtain ⟨k, m1, k1, rfl, hk, hC⟩ := hrel
    obtain ⟨⟨j0, zj⟩, hrow⟩ := HRow.out _ _ hC
    by_cases hlt : k < N
    · have hlt' : (k : Int) < (N : Int) := by omega
      obtain ⟨g, rfl, _, zg⟩ := own_spot hrow (by omega)
      have cg : wr.cell? ⟨g, k, none⟩ = some (.int .i64 (R.getD k default)) := by
        obtain ⟨b, off, e2, _, hcr⟩ := (own_isRow in_len hrow HN.out.symm).1.2.2.2.2 (by omega)
        have e3 : g = b ∧ 0 = off := by simpa using e2
        obtain ⟨rfl, rfl⟩ := e3
        have := hcr k hlt 0 (by decide)
        rw [Nat.zero_add, Nat.mul_one, Nat.add_zero] at this
        exact this
      have hml : ((toldV v m1 k1 jn false (R.take k)).ml + 1) * 96 ≤ 140737488355328 := by
        exact told_fit Hn.out (Nat.le_trans (List.length_take_le k R) (Nat.le_trans hk hN))
      have HS : Hid (∀ U, Below wr.heap.size wr U → Calls Tryd.prog 49 #[.pointer (some ⟨q, 0, none⟩), .int .i64 jn, .int .i64 (R.getD k default), .agg #[.int .i64 4, .int .i64 0, .int .i64 0, .int .i64 0, .int .i64 0, .int .i64 0, .int .i64 0, .int .i64 0, .int .i64 0, .int .i64 0, .bool false, .int .i64 0]] U fun e X' => e = .returned (.tuple #[]) ∧ ∃ a5 c5, Clerk w X' B q (toldV v a5 c5 jn false (R.take (k + 1))) ix M) := fun U hU => by
        have := send_any U (hC.below hU) jn (R.getD k default) ⟨4, 0, 0, 0, 0, 0, 0, 0, 0, 0, false, 0⟩ hml
        simp only [MV.val] at this
        refine this.mono ?_
        rintro e u ⟨rfl, a5, c5, h5⟩
        refine ⟨rfl, a5, c5, ?_⟩
        rw [← toldV_at (ma := m1) (mc := k1) (by rw [← HN.out]; exact hlt)]
        exact h5
      obtain ⟨Z, eZ⟩ : ∃ Z, Z = R.getD k default := ⟨_, rfl⟩
      rw [← eZ] at cg HS
      clear eZ hml
      go_wp2_with (go_at_call 49; refine (HS.out _ (by (with_reducible repeat (first | exact Below.refl _ _ | refine nD ?_ | refine nA ?_ _)); done)).mono ?_; rintro e w5 ⟨rfl, a5, c5, h5⟩)
      go_roundw
      case rel => exact ⟨k + 1, a5, c5, by go_num, by omega, h5⟩
      case measure => simp [intOf]; omega
    · have hkN : k = N := by omega
      have hlt' : ¬ (k : Int) < (N : Int) := by omega
      have HD : Hid (Calls Tryd.prog 55 #[.pointer (some ⟨q, 0, none⟩), .int .i64 jn] wr fun e X' => EndIs w X' B q v jn R e) := by
        refine (drop_any wr hC jn).mono ?_
        rintro e u ⟨rfl, ix', h5⟩
        refine ⟨rfl, m1, k1, ix', M, ?_⟩
        rw [List.take_of_length_le (by rw [hkN, HN.out]; exact Nat.le_refl _)] at h5
        exact h5
      clear hkN hk hlt hN hC hrow
      go_wp2_with (go_at_call 55; refine HD.out.mono ?_; rintro e w5 ⟨rfl, h6⟩)
      exact bodyPost_end (v := .tuple #[]) (by simp [results, Tryd.results27, go_sem]) rfl ⟨rfl, h6⟩
end Go.Proofs.YtdjnaahkcnklhabDoor.Co
