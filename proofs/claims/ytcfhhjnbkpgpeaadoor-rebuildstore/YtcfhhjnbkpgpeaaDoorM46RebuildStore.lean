/- Texts of this claim, one behind the other. -/
import Derived.Test.YtcfhhjnbkpgpeaaDoorM44RebuildStore
import Derived.Test.YtcfhhjnbkpgpeaaDoorM45RebuildStore
import Derived.Test.YtcfhhjnbkpgpeaaDoorM17RebuildStore
import Derived.Test.YtcfhhjnbkpgpeaaDoorM21RebuildStore
import Derived.OwnWalk
/- How many locks for writing a transaction has behind its first write. -/
namespace Go.Proofs.YtcfhhjnbkpgpeaaDoor.St
open Go.ChangeShapes Go.WideShapes Go.ChangeAt Go.RowKit
set_option linter.unusedVariables false

theorem wOf_plus {p : PS} {x : Int × Int} {k va ask : Int} (hF : Fresh p x) : (p.locks ++ [(⟨x, k, true, va, ask⟩ : LkV)]).filter (wOf x) = [⟨x, k, true, va, ask⟩] := by
  rw [List.filter_append]
  have : p.locks.filter (wOf x) = [] := List.filter_eq_nil_iff.2 fun o ho => by simp [wOf, hF.nl o ho]
  rw [this]
  simp [wOf]
theorem cnt_plus {p : PS} {u : SV} {x : Int × Int} {k va ask : Int} (hF : Fresh p x) (hP : Plus p u.data ⟨x, k, true, va, ask⟩) (ho : OKP u.data) : cntErr u x = 0 ∧ cntIs u x = 1 := by
  have el : u.locks = p.locks ++ [⟨x, k, true, va, ask⟩] := hP.locks
  have hE : cntErr u x = 0 := by unfold cntErr; rw [if_pos ho.ok, if_pos hF.okx]
  refine ⟨hE, ?_⟩
  unfold cntIs
  rw [if_pos hE, el, wOf_plus hF]
  rfl
end Go.Proofs.YtcfhhjnbkpgpeaaDoor.St
/- What the law RebuildStore's records make, on plain data. -/
namespace Go.Proofs.YtcfhhjnbkpgpeaaDoor.Rb
open Go.ChangeShapes Go.WideShapes Go.ChangeAt Go.RowKit
open Go.Proofs.YtcfhhjnbkpgpeaaDoor.St Go.Proofs.YtcfhhjnbkpgpeaaDoor.Co Go.Proofs.YtcfhhjnbkpgpeaaDoor.Pt
set_option linter.unusedVariables false

theorem i03 : St.inR 0 0 3 = true := rfl
theorem i1n : St.inR 1 1 1048576 = true := rfl
theorem i2n : St.inR 2 1 1048576 = true := rfl
theorem i1a : St.inR 1 0 1048576 = true := rfl
theorem i0a : St.inR 0 0 1048576 = true := rfl
def r1 : RcP := ⟨5, 0, 1, 0, 0, 0, false, []⟩
def r2 (k v : Int) : RcP := ⟨1, 0, 1, k, v, 1, false, []⟩
def r3 (yes : Bool) : RcP := ⟨2, 0, 1, 0, 0, 0, yes, []⟩
def r4 (k z : Int) : RcP := ⟨1, 0, 2, k, z, 1, false, []⟩
theorem s1 : stStep PS.nil r1 = PS.nil := rfl
theorem s2 {k v : Int} (hk : St.inR k 0 7 = true) (hv : St.inR v 0 1073741824 = true) : stStep PS.nil (r2 k v) = ⟨[], [⟨(0, 1), k, true, v, 1⟩], [⟨(0, 1), 0⟩], []⟩ := by
  simp [stStep, r2, RcP.tx, PS.nil, PS.wr, PS.sv, writeErr, writeData, refErr, storeOK, itemsOK, locksOK, locksGo, txOK, overGo, doubtsOK, doubtsGo, rwErr, lateT, idxI, holdL, holdD, i03, i1n, i1a, hk, hv, itemAt]
theorem s3 {k v : Int} (yes : Bool) (hk : St.inR k 0 7 = true) (hv : St.inR v 0 1073741824 = true) : stStep ⟨[], [⟨(0, 1), k, true, v, 1⟩], [⟨(0, 1), 0⟩], []⟩ (r3 yes) = ⟨if yes then [⟨k, v, 1⟩] else [], [], [], [(0, 1)]⟩ := by
  cases yes <;> simp [stStep, r3, RcP.tx, PS.en, PS.sv, endErr, endData, storeOK, itemsOK, locksOK, locksGo, lockOK, txOK, overGo, doubtsOK, doubtsGo, ofT, dbT, wOf, putAll, putI, St.keep, i03, i1n, i1a, i0a, hk, hv]
theorem ok4 {k v : Int} (yes : Bool) (hk : St.inR k 0 7 = true) (hv : St.inR v 0 1073741824 = true) (ov : List (Int × Int)) (ho : ov = [] ∨ ov = [(0, 1)] ∨ ov = [(0, 1), (0, 2)]) : okP ⟨if yes then [⟨k, v, 1⟩] else [], [], [], ov⟩ = true := by
  rcases ho with rfl | rfl | rfl <;> cases yes <;> simp [okP, itemsOK, locksOK, locksGo, txOK, overGo, doubtsOK, doubtsGo, i03, i1n, i2n, hk, hv]
theorem item4 {k v : Int} (yes : Bool) : itemAt (if yes then [⟨k, v, 1⟩] else []) k = if yes then ⟨k, v, 1⟩ else ⟨k, 0, 0⟩ := by
  cases yes <;> simp [itemAt, idxI, kyT]
theorem s4 {k v z : Int} (yes : Bool) (hk : St.inR k 0 7 = true) (hv : St.inR v 0 1073741824 = true) (hz : St.inR z 0 1073741824 = true) : stStep ⟨if yes then [⟨k, v, 1⟩] else [], [], [], [(0, 1)]⟩ (r4 k z) = ⟨if yes then [⟨k, v, 1⟩] else [], [⟨(0, 2), k, true, z, 1⟩], [⟨(0, 2), 0⟩], [(0, 1)]⟩ := by
  cases yes <;> simp [stStep, r4, RcP.tx, PS.wr, PS.sv, writeErr, writeData, refErr, storeOK, itemsOK, locksOK, locksGo, txOK, overGo, doubtsOK, doubtsGo, rwErr, lateT, idxI, holdL, holdD, i03, i1n, i2n, i1a, hk, hv, hz, itemAt, kyT]
def pF (k v z : Int) (yes : Bool) : PS := ⟨if yes then [⟨k, v, 1⟩] else [], [⟨(0, 2), k, true, z, 1⟩], [⟨(0, 2), 0⟩], [(0, 1)]⟩
theorem recs4 {k v z : Int} (yes : Bool) (hk : St.inR k 0 7 = true) (hv : St.inR v 0 1073741824 = true) (hz : St.inR z 0 1073741824 = true) : recStore [r1, r2 k v, r3 yes, r4 k z] = pF k v z yes := by
  show stStep (stStep (stStep (stStep PS.nil r1) (r2 k v)) (r3 yes)) (r4 k z) = _
  rw [s1, s2 hk hv, s3 yes hk hv, s4 yes hk hv hz]
  rfl
theorem okF {k v z : Int} (yes : Bool) (hk : St.inR k 0 7 = true) (hv : St.inR v 0 1073741824 = true) (hz : St.inR z 0 1073741824 = true) : okP (pF k v z yes) = true := by
  cases yes <;> simp [pF, okP, itemsOK, locksOK, locksGo, lockOK, txOK, overGo, doubtsOK, doubtsGo, ofT, dbT, i03, i1n, i2n, i1a, i0a, hk, hv, hz]
theorem endF {k v z : Int} {s : SV} (yes : Bool) (hk : St.inR k 0 7 = true) (hv : St.inR v 0 1073741824 = true) (hz : St.inR z 0 1073741824 = true) (hs : s.data = pF k v z yes) : endErr s (0, 2) false = 0 ∧ endData s (0, 2) false = ⟨if yes then [⟨k, v, 1⟩] else [], [], [], [(0, 1), (0, 2)]⟩ := by
  have hok : OKP s.data := by rw [hs]; exact (okP_iff _).1 (okF yes hk hv hz)
  refine ⟨end_err hok rfl, ?_⟩
  rw [end_data hok rfl]
  have e1 : s.items = (pF k v z yes).items := congrArg PS.items hs
  have e2 : s.locks = (pF k v z yes).locks := congrArg PS.locks hs
  have e3 : s.doubts = (pF k v z yes).doubts := congrArg PS.doubts hs
  have e4 : s.over = (pF k v z yes).over := congrArg PS.over hs
  rw [e1, e2, e3, e4]
  simp [pF, St.keep, ofT, dbT]
theorem cntF {k v z : Int} {s : SV} (yes : Bool) (hk : St.inR k 0 7 = true) (hv : St.inR v 0 1073741824 = true) (hz : St.inR z 0 1073741824 = true) (hs : s.data = pF k v z yes) : cntErr s (0, 2) = 0 ∧ cntIs s (0, 2) = 1 := by
  have hok : OKP s.data := by rw [hs]; exact (okP_iff _).1 (okF yes hk hv hz)
  have e2 : s.locks = (pF k v z yes).locks := congrArg PS.locks hs
  have h1 : cntErr s (0, 2) = 0 := by unfold cntErr; rw [if_pos (OKP.ok hok), if_pos (by rfl)]
  refine ⟨h1, ?_⟩
  unfold cntIs
  rw [if_pos h1, e2]
  simp [pF, wOf]
theorem peekF {k v : Int} {u : SV} (yes : Bool) (hk : St.inR k 0 7 = true) (hv : St.inR v 0 1073741824 = true) (hu : u.data = ⟨if yes then [⟨k, v, 1⟩] else [], [], [], [(0, 1), (0, 2)]⟩) : peekErr u k = 0 ∧ peekVal u k = (if yes then v else 0) ∧ peekVer u k = (if yes then 1 else 0) ∧ ∀ t ∈ u.over, TxWf t := by
  have hok : OKP u.data := by rw [hu]; exact (okP_iff _).1 (ok4 yes hk hv _ (Or.inr (Or.inr rfl)))
  have e1 : u.items = if yes then [⟨k, v, 1⟩] else [] := congrArg PS.items hu
  have e2 : u.locks = [] := congrArg PS.locks hu
  obtain ⟨h1, h2, h3⟩ := (peek_is hok hk).2 (by rw [e2]; rfl)
  refine ⟨h1, ?_, ?_, OKP.wf hok⟩
  · rw [h2, e1, item4]
    cases yes <;> rfl
  · rw [h3, e1, item4]
    cases yes <;> rfl
theorem desk4 (k v z : Int) (yes : Bool) : recDesk 0 [r1, r2 k v, r3 yes, r4 k z] = (2, []) := by
  simp [recDesk, dkStep, r1, r2, r3, r4]
  rfl
theorem notes4 (k v z : Int) (yes : Bool) : recNotes [r1, r2 k v, r3 yes, r4 k z] = [] := by
  simp [recNotes, notesGo, r1, r2, r3, r4]
end Go.Proofs.YtcfhhjnbkpgpeaaDoor.Rb
/- The walk of the law RebuildStore: at any numbers it returns true and leaves what was in memory. -/
namespace Go.Proofs.YtcfhhjnbkpgpeaaDoor.Rb
open Go.ChangeShapes Go.WideShapes Go.ChangeAt Go.RowKit
open Go.Proofs.YtcfhhjnbkpgpeaaDoor.St Go.Proofs.YtcfhhjnbkpgpeaaDoor.Co Go.Proofs.YtcfhhjnbkpgpeaaDoor.Pt
set_option linter.unusedVariables false

def rcOf (r : RcP) : RcM := ⟨r, none, 0, 0⟩
theorem recsAt_row {w : World} {b : Nat} {rs : List RcP} (hn : rs.length ≤ 100) (h : BoxN w b (rs.length * 8) (rs.flatMap fun r => (rcOf r).cells)) (hz : ∀ r ∈ rs, r.zs = []) : RecsAt w (some ⟨b, 0, none⟩) rs.length rs.length (rs.map rcOf) := by
  refine ⟨⟨by simp, Nat.le_refl _, by unfold maxLen; omega, nofun, fun hp => ⟨b, 0, rfl, h.lt, fun i hi j hj => ?_⟩⟩, fun r hr => ?_⟩
  · have hij : i * 8 + j < rs.length * 8 := by omega
    have h8 := (h.c (i * 8 + j) hij).1
    have e : (0 + i * 8 + j) = i * 8 + j := by omega
    rw [e, h8]
    have key : ∀ (l : List RcP) (i : Nat), i < l.length → (l.flatMap fun r => (rcOf r).cells)[i * 8 + j]? = ((rcOf (l.getD i ⟨0, 0, 0, 0, 0, 0, false, []⟩)).cells)[j]? := by
      intro l
      induction l with
      | nil => intro i hi; simp at hi
      | cons x r ih =>
        intro i hi
        cases i with
        | zero => simp only [Nat.zero_mul, Nat.zero_add, List.flatMap_cons, List.getD_cons_zero]; rw [List.getElem?_append_left (by simp [RcM.cells]; omega)]
        | succ i =>
          simp only [List.flatMap_cons, List.getD_cons_succ]
          rw [List.getElem?_append_right (by simp [RcM.cells]; omega)]
          simp only [List.length_cons] at hi
          rw [← ih i (by omega)]
          have : (i + 1) * 8 + j - (rcOf x).cells.length = i * 8 + j := by simp [RcM.cells]; omega
          rw [this]
    have h9 := key rs i hi
    have e2 : (rs.map rcOf).getD i default = rcOf (rs.getD i ⟨0, 0, 0, 0, 0, 0, false, []⟩) := by simp [List.getD, hi]
    rw [e2, ← h9]
    have hl : i * 8 + j < (rs.flatMap fun r => (rcOf r).cells).length := by
      have : ∀ l : List RcP, (l.flatMap fun r => (rcOf r).cells).length = l.length * 8 := by
        intro l
        induction l with
        | nil => rfl
        | cons x r ih => rw [List.flatMap_cons, List.length_append, ih]; simp [RcM.cells]; omega
      rw [this]; exact hij
    rw [List.getElem?_eq_getElem hl]
    simp only [List.getD]
    rw [List.getElem?_eq_getElem hl]
    rfl
  · obtain ⟨x, hx, rfl⟩ := List.mem_map.1 hr
    show IsInts w none 0 0 x.zs
    rw [hz x hx]
    exact isI_nil w
set_option maxRecDepth 100000 in
set_option maxHeartbeats 16000000 in
theorem rebuildStore_walk (key v z : Int) (yes : Bool) (w : World) (hkey : (Lit.int .i64 key).wf = true) (hv : (Lit.int .i64 v).wf = true) (hz : (Lit.int .i64 z).wf = true) (hHa : HasAt w 0 rHas) (hTo : TopsAt w) :
    Calls Tryd.prog 3 #[.int .i64 key, .int .i64 v, .int .i64 z, .bool yes] w fun e w' => e = .returned (.bool true) ∧ Below w.heap.size w w' := by
  have bdkey : -9223372036854775808 ≤ key ∧ key ≤ 9223372036854775807 := by
    simp [Lit.wf, IntKind.min, IntKind.max, IntKind.signed, IntKind.bits] at hkey
    omega
  clear hkey
  have bdv : -9223372036854775808 ≤ v ∧ v ≤ 9223372036854775807 := by
    simp [Lit.wf, IntKind.min, IntKind.max, IntKind.signed, IntKind.bits] at hv
    omega
  clear hv
  have bdz : -9223372036854775808 ≤ z ∧ z ≤ 9223372036854775807 := by
    simp [Lit.wf, IntKind.min, IntKind.max, IntKind.signed, IntKind.bits] at hz
    omega
  clear hz
  have hgT : 1 < w.heap.size := World.block_lt_of_cell? w _ hTo.1
  have hgM : 0 < w.heap.size := hHa.lt (by decide)
  have KT : Hid (∀ U, Below w.heap.size w U → HasAt U 0 rHas ∧ TopsAt U) := fun U hU => ⟨hHa.below hU hgM, hTo.below hU hgT⟩
  clear hHa hTo hgT hgM
  have hTw := fun u => two_any 0 u (by omega)
  have hpz : (1 + pk 0 3) = 1 := rfl
  rw [hpz] at hTw
  clear hpz
  have hc2 : cfgFault 1 LS2 3 = 0 := cfg_two (by omega) (by omega) (by omega) (by omega)
  have bw : Below w.heap.size w w := Below.refl _ _
  have hkk := pk_bd key 8 (by omega)
  have hvv := pk_bd v 99 (by omega)
  have hzz := pk_bd z 99 (by omega)
  have hPK := fun u => picked_any key 8 u bdkey (by omega) (by omega)
  have hPV := fun u => picked_any v 99 u bdv (by omega) (by omega)
  have hPZ := fun u => picked_any z 99 u bdz (by omega) (by omega)
  obtain ⟨KK, eK⟩ : ∃ x, x = pk key 8 := ⟨_, rfl⟩
  obtain ⟨VV, eV⟩ : ∃ x, x = pk v 99 := ⟨_, rfl⟩
  obtain ⟨ZZ, eZ⟩ : ∃ x, x = pk z 99 := ⟨_, rfl⟩
  rw [← eK] at hPK hkk
  rw [← eV] at hPV hvv
  rw [← eZ] at hPZ hzz
  clear eK eV eZ
  have HPV : Hid (∀ u : World, Calls Tryd.prog 8 #[.int .i64 v, .int .i64 99] u fun e w' => e = .returned (.int .i64 VV) ∧ w' = u) := hPV
  have HPZ : Hid (∀ u : World, Calls Tryd.prog 8 #[.int .i64 z, .int .i64 99] u fun e w' => e = .returned (.int .i64 ZZ) ∧ w' = u) := hPZ
  have iK : St.inR KK 0 7 = true := decide_eq_true ⟨by omega, by omega⟩
  have iV : St.inR VV 0 1073741824 = true := decide_eq_true ⟨by omega, by omega⟩
  have iZ : St.inR ZZ 0 1073741824 = true := decide_eq_true ⟨by omega, by omega⟩
  clear hPV hPZ
  go_enter Tryd.func3, Tryd.ntmps3
  go_upto_region 2 with (go_at_call 7; refine (hTw _).mono ?_; rintro e w1 ⟨g0, rfl, hlab, hg0, hb1⟩)
  clear hTw
  replace bw := bw.trans (hb1.mono bw.size)
  obtain ⟨X1, eX1⟩ : ∃ X : World, X = w1.alloc (.cells #[.int .i64 1, .slice (some ⟨g0, 0, none⟩) 2 2, .int .i64 3] 24) := ⟨_, rfl⟩
  have cb : BoxN X1 w1.heap.size 3 [.int .i64 1, .slice (some ⟨g0, 0, none⟩) 2 2, .int .i64 3] := by rw [eX1]; exact boxn_new w1 #[.int .i64 1, .slice (some ⟨g0, 0, none⟩) 2 2, .int .i64 3] 24 3 rfl
  have bX1 : Below w1.heap.size w1 X1 := by rw [eX1]; exact (Below.refl _ _).alloc (Nat.le_refl _) _
  rw [← eX1]
  clear eX1
  replace bw := bw.trans (bX1.mono bw.size)
  replace hlab := hlab.below bX1
  go_upto_region 4 with (go_at_call 8; refine (hPK _).mono ?_; rintro e u ⟨rfl, hu⟩; rw [hu]; clear hu)
  clear hPK
  obtain ⟨X2, eX2⟩ : ∃ X : World, X = X1.alloc (.cells #[.int .i64 0, .int .i64 1] 28) := ⟨_, rfl⟩
  have ab : BoxN X2 X1.heap.size 2 [.int .i64 0, .int .i64 1] := by rw [eX2]; exact boxn_new X1 #[.int .i64 0, .int .i64 1] 28 2 rfl
  have bX2 : Below X1.heap.size X1 X2 := by rw [eX2]; exact (Below.refl _ _).alloc (Nat.le_refl _) _
  rw [← eX2]
  clear eX2
  replace cb := cb.below bX2 cb.lt
  replace bw := bw.trans (bX2.mono bw.size)
  replace hlab := hlab.below bX2
  go_upto_region 5 with (fail)
  obtain ⟨X3, eX3⟩ : ∃ X : World, X = X2.alloc (.cells #[.int .i64 0, .int .i64 2] 28) := ⟨_, rfl⟩
  have bb : BoxN X3 X2.heap.size 2 [.int .i64 0, .int .i64 2] := by rw [eX3]; exact boxn_new X2 #[.int .i64 0, .int .i64 2] 28 2 rfl
  have bX3 : Below X2.heap.size X2 X3 := by rw [eX3]; exact (Below.refl _ _).alloc (Nat.le_refl _) _
  rw [← eX3]
  clear eX3
  replace cb := cb.below bX3 cb.lt
  replace ab := ab.below bX3 ab.lt
  replace bw := bw.trans (bX3.mono bw.size)
  replace hlab := hlab.below bX3
  have KC : Hid (∀ U, Below X3.heap.size X3 U → (U.cell? ⟨X1.heap.size, 0, none⟩ = some (.int .i64 0) ∧ U.cell? ⟨X1.heap.size, 1, none⟩ = some (.int .i64 1) ∧ X1.heap.size < U.heap.size) ∧ U.cell? ⟨X2.heap.size, 0, none⟩ = some (.int .i64 0) ∧ U.cell? ⟨X2.heap.size, 1, none⟩ = some (.int .i64 2) ∧ X2.heap.size < U.heap.size) := fun U hU => ⟨⟨((ab.below hU ab.lt).c 0 (by decide)).1, ((ab.below hU ab.lt).c 1 (by decide)).1, (ab.below hU ab.lt).lt⟩, ((bb.below hU bb.lt).c 0 (by decide)).1, ((bb.below hU bb.lt).c 1 (by decide)).1, (bb.below hU bb.lt).lt⟩
  refine wp_region_inv (by kernel_rfl) [30, 31, 32, 33, 34, 35, 36, 37, 38, 39, 40, 41, 42, 43, 44, 45, 13] (fun L T u => ∃ (G : Nat), Below X3.heap.size X3 u ∧ (L 0 = true → T 30 = .agg #[.int .i64 0, .int .i64 1]) ∧ (L 1 = true → T 31 = .agg #[.int .i64 5, .int .i64 0, .int .i64 1, .int .i64 0, .int .i64 0, .int .i64 0, .bool false, .slice none 0 0]) ∧ (L 2 = true → T 32 = .agg #[.int .i64 0, .int .i64 1]) ∧ (L 3 = true → T 33 = .int .i64 KK) ∧ (L 4 = true → T 34 = .int .i64 v) ∧ (L 5 = true → T 35 = .int .i64 VV) ∧ (L 6 = true → T 36 = .agg #[.int .i64 1, .int .i64 0, .int .i64 1, .int .i64 KK, .int .i64 VV, .int .i64 1, .bool false, .slice none 0 0]) ∧ (L 7 = true → T 37 = .agg #[.int .i64 0, .int .i64 1]) ∧ (L 8 = true → T 38 = .bool yes) ∧ (L 9 = true → T 39 = .agg #[.int .i64 2, .int .i64 0, .int .i64 1, .int .i64 0, .int .i64 0, .int .i64 0, .bool yes, .slice none 0 0]) ∧ (L 10 = true → T 40 = .agg #[.int .i64 0, .int .i64 2]) ∧ (L 11 = true → T 41 = .int .i64 KK) ∧ (L 12 = true → T 42 = .int .i64 z) ∧ (L 13 = true → T 43 = .int .i64 ZZ) ∧ (L 14 = true → T 44 = .agg #[.int .i64 1, .int .i64 0, .int .i64 2, .int .i64 KK, .int .i64 ZZ, .int .i64 1, .bool false, .slice none 0 0]) ∧ (L 16 = true → T 13 = .slice (some ⟨G, 0, none⟩) 4 4) ∧ (L 15 = true → (T 45 = .slice (some ⟨G, 0, none⟩) 4 4 ∧ X3.heap.size ≤ G ∧ G < u.heap.size)) ∧ (L 15 = true → BoxN u G 32 [.int .i64 5, .int .i64 0, .int .i64 1, .int .i64 0, .int .i64 0, .int .i64 0, .bool false, .slice none 0 0, .int .i64 1, .int .i64 0, .int .i64 1, .int .i64 KK, .int .i64 VV, .int .i64 1, .bool false, .slice none 0 0, .int .i64 2, .int .i64 0, .int .i64 1, .int .i64 0, .int .i64 0, .int .i64 0, .bool yes, .slice none 0 0, .int .i64 1, .int .i64 0, .int .i64 2, .int .i64 KK, .int .i64 ZZ, .int .i64 1, .bool false, .slice none 0 0])) (by decide) (by kernel_rfl) (by kernel_rfl) ?_ ?_ ?_
  · exact ⟨0, (Below.refl _ _).drew, nofun, nofun, nofun, nofun, nofun, nofun, nofun, nofun, nofun, nofun, nofun, nofun, nofun, nofun, nofun, nofun, nofun, nofun⟩
  · refine ⟨?_, ?_, ?_, ?_, ?_, ?_, ?_, ?_, ?_, ?_, ?_, ?_, ?_, ?_, ?_, ?_, ?_, trivial⟩
    · rintro L T u hd hk hcl ⟨G, hb, p0, p1, p2, p3, p4, p5, p6, p7, p8, p9, p10, p11, p12, p13, p14, p16, pa15, bv15⟩ K hK
      simp only [fr, Act.put, List.setIfInBounds_toArray, List.set_cons_zero, List.set_cons_succ, updO] at hK ⊢
      simp [Region.binds] at hd
      obtain ⟨⟨x0, x1, x2⟩, x3, x4, x5⟩ := KC.out u hb
      rw [if_pos (by rfl)]
      simp only [Oper.wpv]
      go_simp
      exact hK _ _ ⟨G, hb, fun _ => rfl, p1, p2, p3, p4, p5, p6, p7, p8, p9, p10, p11, p12, p13, p14, p16, pa15, bv15⟩
    · rintro L T u hd hk hcl ⟨G, hb, p0, p1, p2, p3, p4, p5, p6, p7, p8, p9, p10, p11, p12, p13, p14, p16, pa15, bv15⟩ K hK
      simp only [fr, Act.put, List.setIfInBounds_toArray, List.set_cons_zero, List.set_cons_succ, updO] at hK ⊢
      simp [Region.binds] at hd
      have g0 := p0 (by simp [hd])
      rw [if_pos (by rfl)]
      simp only [Oper.wpv]
      go_simp
      exact hK _ _ ⟨G, hb, p0, fun _ => rfl, p2, p3, p4, p5, p6, p7, p8, p9, p10, p11, p12, p13, p14, p16, pa15, bv15⟩
    · rintro L T u hd hk hcl ⟨G, hb, p0, p1, p2, p3, p4, p5, p6, p7, p8, p9, p10, p11, p12, p13, p14, p16, pa15, bv15⟩ K hK
      simp only [fr, Act.put, List.setIfInBounds_toArray, List.set_cons_zero, List.set_cons_succ, updO] at hK ⊢
      simp [Region.binds] at hd
      obtain ⟨⟨x0, x1, x2⟩, x3, x4, x5⟩ := KC.out u hb
      rw [if_pos (by rfl)]
      simp only [Oper.wpv]
      go_simp
      exact hK _ _ ⟨G, hb, p0, p1, fun _ => rfl, p3, p4, p5, p6, p7, p8, p9, p10, p11, p12, p13, p14, p16, pa15, bv15⟩
    · rintro L T u hd hk hcl ⟨G, hb, p0, p1, p2, p3, p4, p5, p6, p7, p8, p9, p10, p11, p12, p13, p14, p16, pa15, bv15⟩ K hK
      simp only [fr, Act.put, List.setIfInBounds_toArray, List.set_cons_zero, List.set_cons_succ, updO] at hK ⊢
      simp [Region.binds] at hd
      rw [if_pos (by rfl)]
      simp only [Oper.wpv]
      go_simp
      exact hK _ _ ⟨G, hb, p0, p1, p2, fun _ => rfl, p4, p5, p6, p7, p8, p9, p10, p11, p12, p13, p14, p16, pa15, bv15⟩
    · rintro L T u hd hk hcl ⟨G, hb, p0, p1, p2, p3, p4, p5, p6, p7, p8, p9, p10, p11, p12, p13, p14, p16, pa15, bv15⟩ K hK
      simp only [fr, Act.put, List.setIfInBounds_toArray, List.set_cons_zero, List.set_cons_succ, updO] at hK ⊢
      simp [Region.binds] at hd
      rw [if_pos (by rfl)]
      simp only [Oper.wpv]
      go_simp
      exact hK _ _ ⟨G, hb, p0, p1, p2, p3, fun _ => rfl, p5, p6, p7, p8, p9, p10, p11, p12, p13, p14, p16, pa15, bv15⟩
    · rintro L T u hd hk hcl ⟨G, hb, p0, p1, p2, p3, p4, p5, p6, p7, p8, p9, p10, p11, p12, p13, p14, p16, pa15, bv15⟩ K hK
      simp only [fr, Act.put, List.setIfInBounds_toArray, List.set_cons_zero, List.set_cons_succ, updO] at hK ⊢
      simp [Region.binds] at hd
      have g4 := p4 (by simp [hd])
      rw [if_pos (by rfl)]
      simp only [Oper.wpv]
      go_simp
      refine (HPV.out u).mono ?_
      rintro e u1 ⟨rfl, hu9⟩
      have hg : Below u.heap.size u u1 := by rw [hu9]; exact Below.refl _ _
      exact hK _ _ ⟨G, nT hb hg, p0, p1, p2, p3, p4, fun _ => rfl, p6, p7, p8, p9, p10, p11, p12, p13, p14, p16, fun h0 => ⟨(pa15 h0).1, (pa15 h0).2.1, Nat.lt_of_lt_of_le (pa15 h0).2.2 hg.size⟩, fun h0 => (bv15 h0).below hg (bv15 h0).lt⟩
    · rintro L T u hd hk hcl ⟨G, hb, p0, p1, p2, p3, p4, p5, p6, p7, p8, p9, p10, p11, p12, p13, p14, p16, pa15, bv15⟩ K hK
      simp only [fr, Act.put, List.setIfInBounds_toArray, List.set_cons_zero, List.set_cons_succ, updO] at hK ⊢
      simp [Region.binds] at hd
      have g2 := p2 (by simp [hd])
      have g3 := p3 (by simp [hd])
      have g5 := p5 (by simp [hd])
      rw [if_pos (by rfl)]
      simp only [Oper.wpv]
      go_simp
      exact hK _ _ ⟨G, hb, p0, p1, p2, p3, p4, p5, fun _ => rfl, p7, p8, p9, p10, p11, p12, p13, p14, p16, pa15, bv15⟩
    · rintro L T u hd hk hcl ⟨G, hb, p0, p1, p2, p3, p4, p5, p6, p7, p8, p9, p10, p11, p12, p13, p14, p16, pa15, bv15⟩ K hK
      simp only [fr, Act.put, List.setIfInBounds_toArray, List.set_cons_zero, List.set_cons_succ, updO] at hK ⊢
      simp [Region.binds] at hd
      obtain ⟨⟨x0, x1, x2⟩, x3, x4, x5⟩ := KC.out u hb
      rw [if_pos (by rfl)]
      simp only [Oper.wpv]
      go_simp
      exact hK _ _ ⟨G, hb, p0, p1, p2, p3, p4, p5, p6, fun _ => rfl, p8, p9, p10, p11, p12, p13, p14, p16, pa15, bv15⟩
    · rintro L T u hd hk hcl ⟨G, hb, p0, p1, p2, p3, p4, p5, p6, p7, p8, p9, p10, p11, p12, p13, p14, p16, pa15, bv15⟩ K hK
      simp only [fr, Act.put, List.setIfInBounds_toArray, List.set_cons_zero, List.set_cons_succ, updO] at hK ⊢
      simp [Region.binds] at hd
      rw [if_pos (by rfl)]
      simp only [Oper.wpv]
      go_simp
      exact hK _ _ ⟨G, hb, p0, p1, p2, p3, p4, p5, p6, p7, fun _ => rfl, p9, p10, p11, p12, p13, p14, p16, pa15, bv15⟩
    · rintro L T u hd hk hcl ⟨G, hb, p0, p1, p2, p3, p4, p5, p6, p7, p8, p9, p10, p11, p12, p13, p14, p16, pa15, bv15⟩ K hK
      simp only [fr, Act.put, List.setIfInBounds_toArray, List.set_cons_zero, List.set_cons_succ, updO] at hK ⊢
      simp [Region.binds] at hd
      have g7 := p7 (by simp [hd])
      have g8 := p8 (by simp [hd])
      rw [if_pos (by rfl)]
      simp only [Oper.wpv]
      go_simp
      exact hK _ _ ⟨G, hb, p0, p1, p2, p3, p4, p5, p6, p7, p8, fun _ => rfl, p10, p11, p12, p13, p14, p16, pa15, bv15⟩
    · rintro L T u hd hk hcl ⟨G, hb, p0, p1, p2, p3, p4, p5, p6, p7, p8, p9, p10, p11, p12, p13, p14, p16, pa15, bv15⟩ K hK
      simp only [fr, Act.put, List.setIfInBounds_toArray, List.set_cons_zero, List.set_cons_succ, updO] at hK ⊢
      simp [Region.binds] at hd
      obtain ⟨⟨x0, x1, x2⟩, x3, x4, x5⟩ := KC.out u hb
      rw [if_pos (by rfl)]
      simp only [Oper.wpv]
      go_simp
      exact hK _ _ ⟨G, hb, p0, p1, p2, p3, p4, p5, p6, p7, p8, p9, fun _ => rfl, p11, p12, p13, p14, p16, pa15, bv15⟩
    · rintro L T u hd hk hcl ⟨G, hb, p0, p1, p2, p3, p4, p5, p6, p7, p8, p9, p10, p11, p12, p13, p14, p16, pa15, bv15⟩ K hK
      simp only [fr, Act.put, List.setIfInBounds_toArray, List.set_cons_zero, List.set_cons_succ, updO] at hK ⊢
      simp [Region.binds] at hd
      rw [if_pos (by rfl)]
      simp only [Oper.wpv]
      go_simp
      exact hK _ _ ⟨G, hb, p0, p1, p2, p3, p4, p5, p6, p7, p8, p9, p10, fun _ => rfl, p12, p13, p14, p16, pa15, bv15⟩
    · rintro L T u hd hk hcl ⟨G, hb, p0, p1, p2, p3, p4, p5, p6, p7, p8, p9, p10, p11, p12, p13, p14, p16, pa15, bv15⟩ K hK
      simp only [fr, Act.put, List.setIfInBounds_toArray, List.set_cons_zero, List.set_cons_succ, updO] at hK ⊢
      simp [Region.binds] at hd
      rw [if_pos (by rfl)]
      simp only [Oper.wpv]
      go_simp
      exact hK _ _ ⟨G, hb, p0, p1, p2, p3, p4, p5, p6, p7, p8, p9, p10, p11, fun _ => rfl, p13, p14, p16, pa15, bv15⟩
    · rintro L T u hd hk hcl ⟨G, hb, p0, p1, p2, p3, p4, p5, p6, p7, p8, p9, p10, p11, p12, p13, p14, p16, pa15, bv15⟩ K hK
      simp only [fr, Act.put, List.setIfInBounds_toArray, List.set_cons_zero, List.set_cons_succ, updO] at hK ⊢
      simp [Region.binds] at hd
      have g12 := p12 (by simp [hd])
      rw [if_pos (by rfl)]
      simp only [Oper.wpv]
      go_simp
      refine (HPZ.out u).mono ?_
      rintro e u1 ⟨rfl, hu9⟩
      have hg : Below u.heap.size u u1 := by rw [hu9]; exact Below.refl _ _
      exact hK _ _ ⟨G, nT hb hg, p0, p1, p2, p3, p4, p5, p6, p7, p8, p9, p10, p11, p12, fun _ => rfl, p14, p16, fun h0 => ⟨(pa15 h0).1, (pa15 h0).2.1, Nat.lt_of_lt_of_le (pa15 h0).2.2 hg.size⟩, fun h0 => (bv15 h0).below hg (bv15 h0).lt⟩
    · rintro L T u hd hk hcl ⟨G, hb, p0, p1, p2, p3, p4, p5, p6, p7, p8, p9, p10, p11, p12, p13, p14, p16, pa15, bv15⟩ K hK
      simp only [fr, Act.put, List.setIfInBounds_toArray, List.set_cons_zero, List.set_cons_succ, updO] at hK ⊢
      simp [Region.binds] at hd
      have g10 := p10 (by simp [hd])
      have g11 := p11 (by simp [hd])
      have g13 := p13 (by simp [hd])
      rw [if_pos (by rfl)]
      simp only [Oper.wpv]
      go_simp
      exact hK _ _ ⟨G, hb, p0, p1, p2, p3, p4, p5, p6, p7, p8, p9, p10, p11, p12, p13, fun _ => rfl, p16, pa15, bv15⟩
    · rintro L T u hd hk hcl ⟨G, hb, p0, p1, p2, p3, p4, p5, p6, p7, p8, p9, p10, p11, p12, p13, p14, p16, pa15, bv15⟩ K hK
      simp only [fr, Act.put, List.setIfInBounds_toArray, List.set_cons_zero, List.set_cons_succ, updO] at hK ⊢
      simp [Region.binds] at hd
      have g1 := p1 (by simp [hd])
      have g6 := p6 (by simp [hd])
      have g9 := p9 (by simp [hd])
      have g14 := p14 (by simp [hd])
      have k16 := hcl 16 _ rfl
      simp [Region.binds] at k16
      have hg : Below u.heap.size u (u.alloc (.cells #[.int .i64 5, .int .i64 0, .int .i64 1, .int .i64 0, .int .i64 0, .int .i64 0, .bool false, .slice none 0 0, .int .i64 1, .int .i64 0, .int .i64 1, .int .i64 KK, .int .i64 VV, .int .i64 1, .bool false, .slice none 0 0, .int .i64 2, .int .i64 0, .int .i64 1, .int .i64 0, .int .i64 0, .int .i64 0, .bool yes, .slice none 0 0, .int .i64 1, .int .i64 0, .int .i64 2, .int .i64 KK, .int .i64 ZZ, .int .i64 1, .bool false, .slice none 0 0] 31)) := (Below.refl _ _).alloc (Nat.le_refl _) _
      rw [if_pos (by rfl)]
      simp only [Oper.wpv]
      go_simp
      exact hK _ _ ⟨u.heap.size, (nT hb hg), p0, p1, p2, p3, p4, p5, p6, p7, p8, p9, p10, p11, p12, p13, p14, fun h => absurd (show L 16 = true from h) (by intro hh; have a16 := k16 hh; simp [hk] at a16), fun _ => ⟨rfl, hb.size, by simp⟩, fun _ => boxn_new u #[.int .i64 5, .int .i64 0, .int .i64 1, .int .i64 0, .int .i64 0, .int .i64 0, .bool false, .slice none 0 0, .int .i64 1, .int .i64 0, .int .i64 1, .int .i64 KK, .int .i64 VV, .int .i64 1, .bool false, .slice none 0 0, .int .i64 2, .int .i64 0, .int .i64 1, .int .i64 0, .int .i64 0, .int .i64 0, .bool yes, .slice none 0 0, .int .i64 1, .int .i64 0, .int .i64 2, .int .i64 KK, .int .i64 ZZ, .int .i64 1, .bool false, .slice none 0 0] 31 32 rfl⟩
    · rintro L T u hd hk hcl ⟨G, hb, p0, p1, p2, p3, p4, p5, p6, p7, p8, p9, p10, p11, p12, p13, p14, p16, pa15, bv15⟩ K hK
      simp only [fr, Act.put, List.setIfInBounds_toArray, List.set_cons_zero, List.set_cons_succ, updO] at hK ⊢
      simp [Region.binds] at hd
      have g15 := pa15 (by simp [hd])
      rw [if_pos (by rfl)]
      simp only [Oper.wpv]
      go_simp
      exact hK _ _ ⟨G, hb, p0, p1, p2, p3, p4, p5, p6, p7, p8, p9, p10, p11, p12, p13, p14, fun _ => rfl, pa15, bv15⟩
  · rintro L T u hl ⟨G, hb, p0, p1, p2, p3, p4, p5, p6, p7, p8, p9, p10, p11, p12, p13, p14, p16, pa15, bv15⟩
    simp only [fr, Act.put, List.setIfInBounds_toArray, List.set_cons_zero, List.set_cons_succ]
    have h45 := pa15 (hl 15 (by decide))
    have h13 := p16 (hl 16 (by decide))
    have rb := bv15 (hl 15 (by decide))
    clear p0 p1 p2 p3 p4 p5 p6 p7 p8 p9 p10 p11 p12 p13 p14 p16 pa15 bv15 KC hl HPZ
    rw [h13]
    clear h13 h45
    replace cb := cb.below hb cb.lt
    replace ab := ab.below hb ab.lt
    replace bb := bb.below hb bb.lt
    replace bw := bw.trans (hb.mono bw.size)
    replace hlab := hlab.below hb
    have hRec : RecsAt u (some ⟨G, 0, none⟩) 4 4 ([r1, r2 KK VV, r3 yes, r4 KK ZZ].map rcOf) := recsAt_row (rs := [r1, r2 KK VV, r3 yes, r4 KK ZZ]) (by simp) rb (by simp [r1, r2, r3, r4])
    clear rb
    have hRF : ∀ r ∈ [r1, r2 KK VV, r3 yes, r4 KK ZZ], recFault 1 LS2 3 (RcP.v r) = 0 := fun r hr => by
      have e : RcP.v r = RcP.v r := rfl
      simp only [List.mem_cons, List.not_mem_nil, or_false] at hr
      have h8 := hkk
      rcases hr with rfl | rfl | rfl | rfl
      · rfl
      · have h9 : recFault 1 LS2 3 ⟨1, 0, 1, KK, VV, 1, false, none, 0, 0, []⟩ = 0 := rec_ok hc2 (by omega) (by omega) (by omega) (by omega) (by omega) (by omega) (by omega) rfl (by simp [hasAll, rHasOf, rHas, bit])
        exact h9
      · cases yes <;> rfl
      · have h9 : recFault 1 LS2 3 ⟨1, 0, 2, KK, ZZ, 1, false, none, 0, 0, []⟩ = 0 := rec_ok hc2 (by omega) (by omega) (by omega) (by omega) (by omega) (by omega) (by omega) rfl (by simp [hasAll, rHasOf, rHas, bit])
        exact h9
    have HRb : Hid (Calls Tryd.prog 9 #[.agg #[.int .i64 1, .slice (some ⟨g0, 0, none⟩) 2 2, .int .i64 3], .int .i64 0, .slice (some ⟨G, 0, none⟩) 4 4] u fun e w' => ∃ (q : Rt) (na : Option Addr) (nc : Nat), e = .returned (.tuple #[q.s.val, .agg #[.int .i64 2, .slice q.a q.js.length q.c], .slice na 0 nc, .int .i64 0]) ∧ RbAt u.heap.size w' q ∧ q.s.data = pF KK VV ZZ yes ∧ Below u.heap.size u w') := by
      have hT := KT.out u bw
      have hm : ([r1, r2 KK VV, r3 yes, r4 KK ZZ].map rcOf).map RcM.p = [r1, r2 KK VV, r3 yes, r4 KK ZZ] := rfl
      refine (rebuild_ok 1 3 (some ⟨g0, 0, none⟩) 2 2 LS2 0 (some ⟨G, 0, none⟩) 4 4 ([r1, r2 KK VV, r3 yes, r4 KK ZZ].map rcOf) u hlab hRec hT.1 hT.2 (by omega) (by rw [hm]; exact rbErr_ok hc2 (by omega) hRF)).mono ?_
      rintro e w' ⟨q, na, nc, rfl, h5, h6, h7, h8⟩
      rw [hm] at h6 h7 ⊢
      rw [recs4 yes iK iV iZ] at h6
      rw [desk4, notes4]
      exact ⟨q, na, nc, rfl, h5, h6, h8⟩
    clear hRec hRF KT
    have cb_0 : u.cell? ⟨w1.heap.size, 0, none⟩ = some (.int .i64 1) := (cb.c 0 (by decide)).1
    have cb_1 : u.cell? ⟨w1.heap.size, 1, none⟩ = some (.slice (some ⟨g0, 0, none⟩) 2 2) := (cb.c 1 (by decide)).1
    have cb_2 : u.cell? ⟨w1.heap.size, 2, none⟩ = some (.int .i64 3) := (cb.c 2 (by decide)).1
    have cb_z := cb.lt
    go_upto_region 7 with (go_at_call 9; refine HRb.out.mono ?_; rintro e y1 ⟨⟨⟨ia, il, ic, la, ll, lc, da, dl, dc, oa, ol, oc, its, lks, dbs, ovs⟩, ja, jc, js⟩, na, nc, rfl, hq, hdt, hb2⟩; simp only [SV.val])
    clear cb_0 cb_1 cb_2 cb_z
    clear HRb
    have hIs := hq.st.isStore
    clear hq
    simp only [] at hIs hdt
    replace cb := cb.below hb2 cb.lt
    replace ab := ab.below hb2 ab.lt
    replace bb := bb.below hb2 bb.lt
    replace bw := bw.trans (hb2.mono bw.size)
    replace hlab := hlab.below hb2
    obtain ⟨X4, eX4⟩ : ∃ X : World, X = (y1.alloc (.cells #[.slice ia il ic, .slice la ll lc, .slice da dl dc, .slice oa ol oc] 38)).alloc (.cells #[.int .i64 2, .slice ja js.length jc] 41) := ⟨_, rfl⟩
    have sb : BoxN X4 y1.heap.size 4 [.slice ia il ic, .slice la ll lc, .slice da dl dc, .slice oa ol oc] := by rw [eX4]; have h8 := boxn_new y1 #[.slice ia il ic, .slice la ll lc, .slice da dl dc, .slice oa ol oc] 38 4 rfl; exact h8.below ((Below.refl _ _).alloc (Nat.le_refl _) _) h8.lt
    have db : BoxN X4 (y1.heap.size + 1) 2 [.int .i64 2, .slice ja js.length jc] := by rw [eX4]; have h8 := boxn_new (y1.alloc (.cells #[.slice ia il ic, .slice la ll lc, .slice da dl dc, .slice oa ol oc] 38)) #[.int .i64 2, .slice ja js.length jc] 41 2 rfl; simpa using h8
    have bX4 : Below y1.heap.size y1 X4 := by rw [eX4]; exact ((Below.refl _ _).alloc (Nat.le_refl _) _).alloc (by simp) _
    rw [← eX4]
    clear eX4
    replace cb := cb.below bX4 cb.lt
    replace ab := ab.below bX4 ab.lt
    replace bb := bb.below bX4 bb.lt
    replace bw := bw.trans (bX4.mono bw.size)
    replace hlab := hlab.below bX4
    replace hIs := hIs.below bX4
    obtain ⟨e1, e2⟩ := endF (s := ⟨ia, il, ic, la, ll, lc, da, dl, dc, oa, ol, oc, its, lks, dbs, ovs⟩) yes iK iV iZ hdt
    obtain ⟨c1, c2⟩ := cntF (s := ⟨ia, il, ic, la, ll, lc, da, dl, dc, oa, ol, oc, its, lks, dbs, ovs⟩) yes iK iV iZ hdt
    have hok0 : OKP (SV.data ⟨ia, il, ic, la, ll, lc, da, dl, dc, oa, ol, oc, its, lks, dbs, ovs⟩) := by rw [hdt]; exact (okP_iff _).1 (okF yes iK iV iZ)
    have hwf0 : ∀ t ∈ ovs, TxWf t := OKP.wf (s := ⟨ia, il, ic, la, ll, lc, da, dl, dc, oa, ol, oc, its, lks, dbs, ovs⟩) hok0
    have hol : ol * 16 ≤ 140737488351232 := by
      have h8 : ovs.length = ol := hIs.over.1
      have h9 : ovs = [(0, 1)] := congrArg PS.over hdt
      rw [h9] at h8
      simp at h8
      omega
    have HEn : Hid (Calls Tryd.prog 10 #[.agg #[.slice ia il ic, .slice la ll lc, .slice da dl dc, .slice oa ol oc], .agg #[.int .i64 0, .int .i64 2], .bool false] X4 fun e w' => ∃ r : SV, e = .returned (.tuple #[r.val, .int .i64 0]) ∧ IsStore w' r ∧ r.data = ⟨if yes then [⟨KK, VV, 1⟩] else [], [], [], [(0, 1), (0, 2)]⟩ ∧ Below X4.heap.size X4 w') := by
      refine (St.end_own ⟨ia, il, ic, la, ll, lc, da, dl, dc, oa, ol, oc, its, lks, dbs, ovs⟩ (0, 2) false X4 hIs hwf0 hol).mono ?_
      rintro e w' ⟨r, rfl, h1, h2, h3⟩
      rw [e1]
      rw [e2] at h2
      exact ⟨r, rfl, h1.isStore, h2, h3⟩
    clear e1 e2 hok0 hol hdt iZ
    have sb_0 : X4.cell? ⟨y1.heap.size, 0, none⟩ = some (.slice ia il ic) := (sb.c 0 (by decide)).1
    have sb_1 : X4.cell? ⟨y1.heap.size, 1, none⟩ = some (.slice la ll lc) := (sb.c 1 (by decide)).1
    have sb_2 : X4.cell? ⟨y1.heap.size, 2, none⟩ = some (.slice da dl dc) := (sb.c 2 (by decide)).1
    have sb_3 : X4.cell? ⟨y1.heap.size, 3, none⟩ = some (.slice oa ol oc) := (sb.c 3 (by decide)).1
    have sb_z := sb.lt
    have bb_0 : X4.cell? ⟨X2.heap.size, 0, none⟩ = some (.int .i64 0) := (bb.c 0 (by decide)).1
    have bb_1 : X4.cell? ⟨X2.heap.size, 1, none⟩ = some (.int .i64 2) := (bb.c 1 (by decide)).1
    have bb_z := bb.lt
    go_upto_region 8 with (go_at_call 10; refine HEn.out.mono ?_; rintro e y2 ⟨⟨ia2, il2, ic2, la2, ll2, lc2, da2, dl2, dc2, oa2, ol2, oc2, its2, lks2, dbs2, ovs2⟩, rfl, hIu, hdu, hb3⟩; simp only [SV.val])
    clear sb_0 sb_1 sb_2 sb_3 sb_z bb_0 bb_1 bb_z
    clear HEn
    replace cb := cb.below hb3 cb.lt
    replace ab := ab.below hb3 ab.lt
    replace bb := bb.below hb3 bb.lt
    replace sb := sb.below hb3 sb.lt
    replace db := db.below hb3 db.lt
    replace bw := bw.trans (hb3.mono bw.size)
    replace hlab := hlab.below hb3
    replace hIs := hIs.below hb3
    obtain ⟨X5, eX5⟩ : ∃ X : World, X = y2.alloc (.cells #[.slice ia2 il2 ic2, .slice la2 ll2 lc2, .slice da2 dl2 dc2, .slice oa2 ol2 oc2] 38) := ⟨_, rfl⟩
    have ub : BoxN X5 y2.heap.size 4 [.slice ia2 il2 ic2, .slice la2 ll2 lc2, .slice da2 dl2 dc2, .slice oa2 ol2 oc2] := by rw [eX5]; exact boxn_new y2 #[.slice ia2 il2 ic2, .slice la2 ll2 lc2, .slice da2 dl2 dc2, .slice oa2 ol2 oc2] 38 4 rfl
    have bX5 : Below y2.heap.size y2 X5 := by rw [eX5]; exact (Below.refl _ _).alloc (Nat.le_refl _) _
    rw [← eX5]
    clear eX5
    replace cb := cb.below bX5 cb.lt
    replace ab := ab.below bX5 ab.lt
    replace bb := bb.below bX5 bb.lt
    replace sb := sb.below bX5 sb.lt
    replace db := db.below bX5 db.lt
    replace bw := bw.trans (bX5.mono bw.size)
    replace hlab := hlab.below bX5
    replace hIs := hIs.below bX5
    replace hIu := hIu.below bX5
    obtain ⟨k1, k2, k3, k4⟩ := peekF (u := ⟨ia2, il2, ic2, la2, ll2, lc2, da2, dl2, dc2, oa2, ol2, oc2, its2, lks2, dbs2, ovs2⟩) yes iK iV hdu
    clear hdu
    have HPe : Hid (Calls Tryd.prog 11 #[.agg #[.slice ia2 il2 ic2, .slice la2 ll2 lc2, .slice da2 dl2 dc2, .slice oa2 ol2 oc2], .int .i64 KK] X5 fun e w' => e = .returned (.tuple #[.int .i64 (if yes then VV else 0), .int .i64 (if yes then 1 else 0), .int .i64 0]) ∧ Below X5.heap.size X5 w') := by
      have h8 := St.peek_any ⟨ia2, il2, ic2, la2, ll2, lc2, da2, dl2, dc2, oa2, ol2, oc2, its2, lks2, dbs2, ovs2⟩ KK X5 hIu k4
      rw [k1, k2, k3] at h8
      exact h8
    have HWr : Hid (∀ U, Below X5.heap.size X5 U → Calls Tryd.prog 12 #[.agg #[.slice ia il ic, .slice la ll lc, .slice da dl dc, .slice oa ol oc], .agg #[.int .i64 0, .int .i64 2]] U fun e w' => e = .returned (.tuple #[.int .i64 1, .int .i64 0]) ∧ Below U.heap.size U w') := fun U hU => by
      have h8 := St.writes_count ⟨ia, il, ic, la, ll, lc, da, dl, dc, oa, ol, oc, its, lks, dbs, ovs⟩ (0, 2) U (hIs.below hU) hwf0
      rw [c1, c2] at h8
      exact h8
    clear c1 c2 k1 k2 k3 k4 hIu hIs hwf0 iK iV
    have ub_0 : X5.cell? ⟨y2.heap.size, 0, none⟩ = some (.slice ia2 il2 ic2) := (ub.c 0 (by decide)).1
    have ub_1 : X5.cell? ⟨y2.heap.size, 1, none⟩ = some (.slice la2 ll2 lc2) := (ub.c 1 (by decide)).1
    have ub_2 : X5.cell? ⟨y2.heap.size, 2, none⟩ = some (.slice da2 dl2 dc2) := (ub.c 2 (by decide)).1
    have ub_3 : X5.cell? ⟨y2.heap.size, 3, none⟩ = some (.slice oa2 ol2 oc2) := (ub.c 3 (by decide)).1
    have ub_z := ub.lt
    go_upto_region 9 with (go_at_call 11; refine HPe.out.mono ?_; rintro e y3 ⟨rfl, hb4⟩)
    clear ub_0 ub_1 ub_2 ub_3 ub_z
    clear HPe
    have hWr := HWr.out y3 hb4
    clear HWr
    replace cb := cb.below hb4 cb.lt
    replace ab := ab.below hb4 ab.lt
    replace bb := bb.below hb4 bb.lt
    replace sb := sb.below hb4 sb.lt
    replace db := db.below hb4 db.lt
    replace ub := ub.below hb4 ub.lt
    replace bw := bw.trans (hb4.mono bw.size)
    replace hlab := hlab.below hb4
    have sb_0 : y3.cell? ⟨y1.heap.size, 0, none⟩ = some (.slice ia il ic) := (sb.c 0 (by decide)).1
    have sb_1 : y3.cell? ⟨y1.heap.size, 1, none⟩ = some (.slice la ll lc) := (sb.c 1 (by decide)).1
    have sb_2 : y3.cell? ⟨y1.heap.size, 2, none⟩ = some (.slice da dl dc) := (sb.c 2 (by decide)).1
    have sb_3 : y3.cell? ⟨y1.heap.size, 3, none⟩ = some (.slice oa ol oc) := (sb.c 3 (by decide)).1
    have sb_z := sb.lt
    have bb_0 : y3.cell? ⟨X2.heap.size, 0, none⟩ = some (.int .i64 0) := (bb.c 0 (by decide)).1
    have bb_1 : y3.cell? ⟨X2.heap.size, 1, none⟩ = some (.int .i64 2) := (bb.c 1 (by decide)).1
    have bb_z := bb.lt
    go_upto_region 10 with (go_at_call 12; refine hWr.mono ?_; rintro e y4 ⟨rfl, hb5⟩)
    clear sb_0 sb_1 sb_2 sb_3 sb_z bb_0 bb_1 bb_z
    clear hWr
    replace cb := cb.below hb5 cb.lt
    replace ab := ab.below hb5 ab.lt
    replace bb := bb.below hb5 bb.lt
    replace sb := sb.below hb5 sb.lt
    replace db := db.below hb5 db.lt
    replace ub := ub.below hb5 ub.lt
    replace bw := bw.trans (hb5.mono bw.size)
    replace hlab := hlab.below hb5
    have db_0 : y4.cell? ⟨y1.heap.size + 1, 0, none⟩ = some (.int .i64 2) := (db.c 0 (by decide)).1
    have db_1 : y4.cell? ⟨y1.heap.size + 1, 1, none⟩ = some (.slice ja js.length jc) := (db.c 1 (by decide)).1
    have db_z := db.lt
    clear cb ab bb sb db ub hlab
    have hPv := HPV.out y4
    cases yes with
    | false =>
      simp only [Bool.false_eq_true, if_false]
      go_wp2
      go_ret
      exact ⟨rfl, bw⟩
    | true =>
      simp only [if_true]
      go_wp2_with (go_at_call 8; refine hPv.mono ?_; rintro e u ⟨rfl, hu⟩; rw [hu]; clear hu)
      go_ret
      exact ⟨by simp, bw⟩
end Go.Proofs.YtcfhhjnbkpgpeaaDoor.Rb
