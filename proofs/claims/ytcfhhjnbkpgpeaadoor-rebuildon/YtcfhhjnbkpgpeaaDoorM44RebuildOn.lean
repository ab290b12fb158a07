/- Texts of this claim, one behind the other. -/
import Derived.Test.YtcfhhjnbkpgpeaaDoorM22RebuildOn
import Derived.Test.YtcfhhjnbkpgpeaaDoorM27RebuildOn
import Derived.Test.YtcfhhjnbkpgpeaaDoorM11RebuildOn
import Derived.Test.YtcfhhjnbkpgpeaaDoorM43RebuildOn
import Derived.Test.YtcfhhjnbkpgpeaaDoorA37RebuildOn
import Derived.OwnWalk
import Derived.BigQuiet
/- The contract of store.Writes. -/
namespace Go.Proofs.YtcfhhjnbkpgpeaaDoor.St
open Go.ChangeShapes Go.WideShapes Go.ChangeAt Go.RowKit
set_option linter.unusedVariables false

set_option maxHeartbeats 2000000 in
theorem writes_count (s : SV) (t : Int × Int) (w : World) (h : IsStore w s) (hwf : ∀ t ∈ s.over, TxWf t) :
    Calls Tryd.prog 12 #[s.val, .agg #[.int .i64 t.1, .int .i64 t.2]] w fun e w' => e = .returned (.tuple #[.int .i64 (cntIs s t), .int .i64 (cntErr s t)]) ∧ Below w.heap.size w w' := by
  have hC := fun w' h1 => refuseTxn_any s t w' h1 hwf
  have hWo := fun w' h1 h2 => writesOf_any s t w' h1 h2
  have hl24 : cntErr s t = 0 → s.ll ≤ 24 := fun e => by
    rw [← h.locks.1]
    apply ok_24
    cases hs : storeOK s with
    | true => rfl
    | false => simp [cntErr, hs] at e
  obtain ⟨E, e6⟩ : ∃ R : Int, R = cntErr s t := ⟨_, rfl⟩
  have e6' : E = if storeOK s then (if txOK t then 0 else 2) else 9 := e6
  obtain ⟨R, e7⟩ : ∃ R, R = cntIs s t := ⟨_, rfl⟩
  have eR : Hid (R = if E = 0 then ((s.locks.filter (wOf t)).length : Int) else 0) := by rw [e6]; exact e7
  rw [← e6, ← e7]
  rw [← e6] at hl24
  rw [← e6'] at hC
  clear e6 e7 e6'
  obtain ⟨F, eF⟩ : ∃ F, F = s.locks.filter (wOf t) := ⟨_, rfl⟩
  rw [← eF] at hWo eR
  clear eF
  have hh := h
  obtain ⟨ia, il, ic, la, ll, lc, da, dl, dc, oa, ol, oc, items, locks, doubts, over⟩ := s
  obtain ⟨ts, tn⟩ := t
  simp only [SV.val] at *
  obtain ⟨W, hW⟩ : ∃ W : World, W = (w.alloc (.cells #[.slice ia il ic, .slice la ll lc, .slice da dl dc, .slice oa ol oc] 38)).alloc (.cells #[.int .i64 ts, .int .i64 tn] 28) := ⟨_, rfl⟩
  have hB : Below w.heap.size w W := by rw [hW]; exact ((Below.refl _ _).alloc (Nat.le_refl _) _).alloc (by simp) _
  have zW : W.heap.size = w.heap.size + 2 := by rw [hW]; simp
  have z0 : w.heap.size < W.heap.size := by omega
  have z1 : w.heap.size + 1 < W.heap.size := by omega
  clear zW
  have c0 : W.cell? ⟨w.heap.size, 0, none⟩ = some (.slice ia il ic) := by rw [hW]; go_simp
  have c1 : W.cell? ⟨w.heap.size, 1, none⟩ = some (.slice la ll lc) := by rw [hW]; go_simp
  have c2 : W.cell? ⟨w.heap.size, 2, none⟩ = some (.slice da dl dc) := by rw [hW]; go_simp
  have c3 : W.cell? ⟨w.heap.size, 3, none⟩ = some (.slice oa ol oc) := by rw [hW]; go_simp
  have c4 : W.cell? ⟨w.heap.size + 1, 0, none⟩ = some (.int .i64 ts) := by rw [hW]; go_simp
  have c5 : W.cell? ⟨w.heap.size + 1, 1, none⟩ = some (.int .i64 tn) := by rw [hW]; go_simp
  have KA : Hid (∀ U : World, Below W.heap.size W U → U.cell? ⟨w.heap.size, 0, none⟩ = some (.slice ia il ic) ∧ U.cell? ⟨w.heap.size, 1, none⟩ = some (.slice la ll lc) ∧ U.cell? ⟨w.heap.size, 2, none⟩ = some (.slice da dl dc) ∧ U.cell? ⟨w.heap.size, 3, none⟩ = some (.slice oa ol oc) ∧ U.cell? ⟨w.heap.size + 1, 0, none⟩ = some (.int .i64 ts) ∧ U.cell? ⟨w.heap.size + 1, 1, none⟩ = some (.int .i64 tn)) := fun U hU =>
    ⟨(hU.cell (p := ⟨w.heap.size, 0, none⟩) z0).trans c0, (hU.cell (p := ⟨w.heap.size, 1, none⟩) z0).trans c1, (hU.cell (p := ⟨w.heap.size, 2, none⟩) z0).trans c2, (hU.cell (p := ⟨w.heap.size, 3, none⟩) z0).trans c3, (hU.cell (p := ⟨w.heap.size + 1, 0, none⟩) z1).trans c4, (hU.cell (p := ⟨w.heap.size + 1, 1, none⟩) z1).trans c5⟩
  have hSW := hh.below hB
  go_enter Tryd.func12, Tryd.ntmps12
  go_upto_region 1 with (fail)
  rw [← hW]
  clear hW
  by_cases hE : E = 0
  · subst hE
    have hl := hl24 rfl
    go_wp2_with (first
      | (go_at_call 23; refine (hC _ hSW).mono ?_; rintro e w1 ⟨rfl, hb1⟩; clear c0 c1 c2 c3 c4 c5; obtain ⟨c0, c1, c2, c3, c4, c5⟩ := KA.out _ hb1; have hL1 := (hSW.below hb1).locks)
      | (go_at_call 25; refine (hWo _ hL1 hl).mono ?_; rintro e w2 ⟨ao, cp, rfl, _, _, hb2⟩))
    go_ret2
    exact ⟨by rw [eR.out]; rfl, hB.trans ((hb1.trans (hb2.mono hb1.size)).mono hB.size)⟩
  · go_wp2_with (go_at_call 23; refine (hC _ hSW).mono ?_; rintro e w1 ⟨rfl, hb1⟩)
    go_ret2
    exact ⟨by rw [eR.out, if_neg hE]; rfl, hB.trans (hb1.mono hB.size)⟩
end Go.Proofs.YtcfhhjnbkpgpeaaDoor.St
/- An append of a row as an operation of a drawn region that goes by an invariant. -/
namespace Go.Proofs.YtcfhhjnbkpgpeaaDoor.St
open Go.ChangeShapes Go.WideShapes Go.ChangeAt Go.RowKit
set_option linter.unusedVariables false

theorem wpv_append_row {α : Type} [Inhabited α] {k : Nat} {cells : α → List Value} {te tsl : TypeId} {i : TypeInfo} {z : Value} {bytes : Nat} (E : Elem k cells te tsl i z bytes) {w : World} {o : Oper} {A : Act} {K : Value → World → Prop} {Q : Exit → Act → World → Prop} (s x : Operand)
    (ho : o.op = .call { callee := .builtin .append, args := #[s, x], argTypes := #[tsl, tsl] })
    (B : Nat) (v : Value) (n : Nat) (xs : List α) (hs : A.eval s = v) (hown : w.ownsRow B te k v n (flat cells xs))
    (a : Option Addr) (len cap : Nat) (bs : List α) (hx : A.eval x = .slice a len cap) (hb : IsRow k cells w a len cap bs) (h63 : n + len ≤ maxLen) (hby : (n + len) * bytes ≤ 140737488355328) (hbase : B ≤ w.heap.size)
    (h : ∀ a' cap' w', w'.ownsRow B te k (.slice a' (n + len) cap') (n + len) (flat cells (xs ++ bs)) → w.grownBy w' v.ownBlock → ((Value.slice a' (n + len) cap').ownBlock = v.ownBlock ∨ (Value.slice a' (n + len) cap').ownBlock = some w.heap.size) → K (.slice a' (n + len) cap') w') :
    Oper.wpv Tryd.prog o A w K Q := by
  obtain ⟨a', cap', w', hr, h2, h3, h4⟩ := run_append_row E (w := w) o.type B v n xs hown a len cap bs hb h63 hby hbase
  unfold Oper.wpv execOp
  simp only [ho, resolve, invoke, builtin, Sem.run_bind, Sem.run_pure, Result.andThen_ok, List.map_toArray, List.map_cons, List.map_nil, hs, hx, hr]
  exact h a' cap' w' h2 h3 h4
end Go.Proofs.YtcfhhjnbkpgpeaaDoor.St
/- The walk of the law RebuildOn: at any numbers it returns true and leaves what was in memory. -/
namespace Go.Proofs.YtcfhhjnbkpgpeaaDoor.Rb
open Go.ChangeShapes Go.WideShapes Go.ChangeAt Go.RowKit
open Go.Proofs.YtcfhhjnbkpgpeaaDoor.St Go.Proofs.YtcfhhjnbkpgpeaaDoor.Co Go.Proofs.YtcfhhjnbkpgpeaaDoor.Pt
set_option linter.unusedVariables false

theorem rcInfoM : (Tryd.prog.info? 31).map (fun i => (i.zero, i.size, i.bytes)) = some (some (.agg #[.int .i64 0, .int .i64 0, .int .i64 0, .int .i64 0, .int .i64 0, .int .i64 0, .bool false, .slice none 0 0]), 8, 80) := by kernel_rfl
theorem rcElemM : ∃ i, Elem 8 RcM.cells 31 32 i (.agg #[.int .i64 0, .int .i64 0, .int .i64 0, .int .i64 0, .int .i64 0, .int .i64 0, .bool false, .slice none 0 0]) 80 := by
  obtain ⟨i, h1, h2, h3, h4⟩ := info_parts rcInfoM
  exact ⟨i, (fun x => rfl), by decide, (fun x u hu => by
    simp only [RcM.cells, List.mem_cons, List.not_mem_nil, or_false] at hu
    rcases hu with h | h | h | h | h | h | h | h <;> subst h <;> rfl), Tryd.underlying32, h1, h2, h3, h4, rfl⟩
theorem one_row (X : World) (cs : Array Value) (t : TypeId) (k : Nat) (hk : cs.size = k) : (X.alloc (.cells cs t)).ownsRow X.heap.size t k (.slice (some ⟨X.heap.size, 0, none⟩) 1 1) 1 cs.toList := by
  refine ⟨by simp [hk], Or.inr ⟨X.heap.size, 1, cs, rfl, Nat.le_refl _, heap_alloc_new X _, Nat.le_refl _, by unfold maxLen; omega, by omega, ?_⟩⟩
  rw [Nat.one_mul, List.take_of_length_le (by simp [hk])]
theorem below_drewQ {B : Nat} {a u : World} (h : Below B a u) (n : Nat) : Below B a (u.drewN n) := ⟨h.os, h.tape, h.output, h.size, h.block⟩
def r0 (a b : Int) : RcP := ⟨2, a, b, 0, 0, 0, true, []⟩
def m0 (a b : Int) : RcM := ⟨r0 a b, none, 0, 0⟩
theorem first_over {a b : Int} (hx : txOK (a, b) = true) (l : List RcP) : ∃ m, (recStore (r0 a b :: l)).over = (a, b) :: m := by
  obtain ⟨m, hm⟩ := over_stays l (stStep PS.nil (r0 a b))
  refine ⟨m, ?_⟩
  show (l.foldl stStep (stStep PS.nil (r0 a b))).over = _
  rw [hm]
  rfl
theorem none_left {s : SV} {x : Int × Int} {l : List RcP} {m : List (Int × Int)} (hs : s.data = recStore l) (hok : RsOK (recStore l) 24001) (hx : txOK x = true) (ho : (recStore l).over = x :: m) : cntErr s x = 0 ∧ cntIs s x = 0 := by
  have h1 : cntErr s x = 0 := by
    unfold cntErr
    rw [if_pos (OKP.ok (by rw [hs]; exact hok.okp)), if_pos hx]
  refine ⟨h1, ?_⟩
  unfold cntIs
  rw [if_pos h1]
  have e2 : s.locks = (recStore l).locks := congrArg PS.locks hs
  have h3 : s.locks.filter (wOf x) = [] := List.filter_eq_nil_iff.2 fun k hk e => by
    rw [e2] at hk
    simp only [wOf, Bool.and_eq_true, decide_eq_true_eq] at e
    exact hok.lo k hk (by rw [ho, e.2]; simp)
  rw [h3]
  rfl
set_option maxRecDepth 100000 in
set_option maxHeartbeats 16000000 in
theorem rebuildOn_walk (s : Int) (a : Option Addr) (len cap : Nat) (rs : List Go.Proofs.YtcfhhjnbkpgpeaaDoor.RV) (xa xb : Int) (w : World) (hs : (Lit.int .i64 s).wf = true) (hr : Go.Proofs.YtcfhhjnbkpgpeaaDoor.IsRaws w a len cap rs) (hxa : (Lit.int .i64 xa).wf = true) (hxb : (Lit.int .i64 xb).wf = true) (hHa : HasAt w 0 rHas) (hTo : TopsAt w) :
    Calls Tryd.prog 6 #[.int .i64 s, .slice a len cap, .int .i64 xa, .int .i64 xb] w fun e w' => e = .returned (.bool true) ∧ Below w.heap.size w w' := by
  have bds : -9223372036854775808 ≤ s ∧ s ≤ 9223372036854775807 := by
    simp [Lit.wf, IntKind.min, IntKind.max, IntKind.signed, IntKind.bits] at hs
    omega
  clear hs
  have bdxa : -9223372036854775808 ≤ xa ∧ xa ≤ 9223372036854775807 := by
    simp [Lit.wf, IntKind.min, IntKind.max, IntKind.signed, IntKind.bits] at hxa
    omega
  clear hxa
  have bdxb : -9223372036854775808 ≤ xb ∧ xb ≤ 9223372036854775807 := by
    simp [Lit.wf, IntKind.min, IntKind.max, IntKind.signed, IntKind.bits] at hxb
    omega
  clear hxb
  have hgT : 1 < w.heap.size := World.block_lt_of_cell? w _ hTo.1
  have hgM : 0 < w.heap.size := hHa.lt (by decide)
  have KT : Hid (∀ U, Below w.heap.size w U → HasAt U 0 rHas ∧ TopsAt U) := fun U hU => ⟨hHa.below hU hgM, hTo.below hU hgT⟩
  clear hHa hTo hgT hgM
  have hsp := pk_bd s 3 (by omega)
  have hTw := fun u => two_any s u bds
  obtain ⟨S1, eS1⟩ : ∃ x, x = 1 + pk s 3 := ⟨_, rfl⟩
  rw [← eS1] at hTw
  have hS1 : 1 ≤ S1 := by omega
  have hS3 : S1 ≤ 3 := by omega
  have hc2 : cfgFault S1 LS2 3 = 0 := cfg_two hS1 (by omega) (by omega) (by omega)
  clear eS1 hsp
  have bw : Below w.heap.size w w := Below.refl _ _
  have hp1 := pk_bd xa S1 (by omega)
  have hp2 := pk_bd xb 6 (by omega)
  have hTx := fun U g => txnR_any S1 3 (some ⟨g, 0, none⟩) 2 2 xa xb U (by omega) bdxa bdxb
  obtain ⟨XA, eA⟩ : ∃ x, x = pk xa S1 := ⟨_, rfl⟩
  obtain ⟨XB, eB⟩ : ∃ x, x = 1 + pk xb 6 := ⟨_, rfl⟩
  rw [← eA] at hp1
  simp only [← eA, ← eB] at hTx
  have hq2 : 1 ≤ XB ∧ XB ≤ 6 := by omega
  have hxo : txOK (XA, XB) = true := by
    have e1 : St.inR XA 0 3 = true := decide_eq_true ⟨by omega, by omega⟩
    have e2 : St.inR XB 1 1048576 = true := decide_eq_true ⟨by omega, by omega⟩
    show (St.inR XA 0 3 && St.inR XB 1 1048576) = true
    rw [e1, e2]
    rfl
  clear eA eB hp2
  have HTx : Hid (∀ (U : World) (g : Nat), Calls Tryd.prog 18 #[.agg #[.int .i64 S1, .slice (some ⟨g, 0, none⟩) 2 2, .int .i64 3], .int .i64 xa, .int .i64 xb] U fun e w' => e = .returned (.agg #[.int .i64 XA, .int .i64 XB]) ∧ Below U.heap.size U w') := hTx
  clear hTx
  go_enter Tryd.func6, Tryd.ntmps6
  go_upto_region 2 with (go_at_call 7; refine (hTw _).mono ?_; rintro e w1 ⟨g0, rfl, hlab, hg0, hb1⟩)
  clear hTw
  replace bw := bw.trans (hb1.mono bw.size)
  replace hr := hr.below hb1
  obtain ⟨X1, eX1⟩ : ∃ X : World, X = w1.alloc (.cells #[.int .i64 S1, .slice (some ⟨g0, 0, none⟩) 2 2, .int .i64 3] 24) := ⟨_, rfl⟩
  have cb : BoxN X1 w1.heap.size 3 [.int .i64 S1, .slice (some ⟨g0, 0, none⟩) 2 2, .int .i64 3] := by rw [eX1]; exact boxn_new w1 #[.int .i64 S1, .slice (some ⟨g0, 0, none⟩) 2 2, .int .i64 3] 24 3 rfl
  have bX1 : Below w1.heap.size w1 X1 := by rw [eX1]; exact (Below.refl _ _).alloc (Nat.le_refl _) _
  rw [← eX1]
  clear eX1
  replace bw := bw.trans (bX1.mono bw.size)
  replace hr := hr.below bX1
  replace hlab := hlab.below bX1
  have hTx := HTx.out X1 g0
  clear HTx
  have cb_0 : X1.cell? ⟨w1.heap.size, 0, none⟩ = some (.int .i64 S1) := (cb.c 0 (by decide)).1
  have cb_1 : X1.cell? ⟨w1.heap.size, 1, none⟩ = some (.slice (some ⟨g0, 0, none⟩) 2 2) := (cb.c 1 (by decide)).1
  have cb_2 : X1.cell? ⟨w1.heap.size, 2, none⟩ = some (.int .i64 3) := (cb.c 2 (by decide)).1
  have cb_z := cb.lt
  go_upto_region 3 with (go_at_call 18; refine hTx.mono ?_; rintro e w2 ⟨rfl, hb2⟩)
  clear cb_0 cb_1 cb_2 cb_z
  clear hTx
  replace cb := cb.below hb2 cb.lt
  replace bw := bw.trans (hb2.mono bw.size)
  replace hr := hr.below hb2
  replace hlab := hlab.below hb2
  obtain ⟨X2, eX2⟩ : ∃ X : World, X = w2.alloc (.cells #[.int .i64 XA, .int .i64 XB] 28) := ⟨_, rfl⟩
  have xb1 : BoxN X2 w2.heap.size 2 [.int .i64 XA, .int .i64 XB] := by rw [eX2]; exact boxn_new w2 #[.int .i64 XA, .int .i64 XB] 28 2 rfl
  have bX2 : Below w2.heap.size w2 X2 := by rw [eX2]; exact (Below.refl _ _).alloc (Nat.le_refl _) _
  rw [← eX2]
  clear eX2
  replace cb := cb.below bX2 cb.lt
  replace bw := bw.trans (bX2.mono bw.size)
  replace hr := hr.below bX2
  replace hlab := hlab.below bX2
  obtain ⟨iE, ER⟩ := rcElemM
  have KC : Hid (∀ U, Below X2.heap.size X2 U → (U.cell? ⟨w1.heap.size, 0, none⟩ = some (.int .i64 S1) ∧ U.cell? ⟨w1.heap.size, 1, none⟩ = some (.slice (some ⟨g0, 0, none⟩) 2 2) ∧ U.cell? ⟨w1.heap.size, 2, none⟩ = some (.int .i64 3) ∧ w1.heap.size < U.heap.size) ∧ U.cell? ⟨w2.heap.size, 0, none⟩ = some (.int .i64 XA) ∧ U.cell? ⟨w2.heap.size, 1, none⟩ = some (.int .i64 XB) ∧ w2.heap.size < U.heap.size) := fun U hU => ⟨⟨((cb.below hU cb.lt).c 0 (by decide)).1, ((cb.below hU cb.lt).c 1 (by decide)).1, ((cb.below hU cb.lt).c 2 (by decide)).1, (cb.below hU cb.lt).lt⟩, ((xb1.below hU xb1.lt).c 0 (by decide)).1, ((xb1.below hU xb1.lt).c 1 (by decide)).1, (xb1.below hU xb1.lt).lt⟩
  have HRc : Hid (∀ U, Below X2.heap.size X2 U → Calls Tryd.prog 16 #[.agg #[.int .i64 S1, .slice (some ⟨g0, 0, none⟩) 2 2, .int .i64 3], .slice a len cap, .int .i64 30] U fun e w' => ∃ (ao : Option Addr) (cp : Nat) (ys : List Go.Proofs.YtcfhhjnbkpgpeaaDoor.RcV), e = .returned (.slice ao ys.length cp) ∧ RecsAt w' ao ys.length cp (ys.map toM) ∧ ((∀ y ∈ ys, recFault S1 LS2 3 y = 0) ∧ (ys.length : Int) ≤ 30) ∧ (∀ y ∈ ys.map toM, ∀ b off, y.sa = some ⟨b, off, none⟩ → U.heap.size ≤ b) ∧ Below U.heap.size U w') := fun U hU => by
    refine (records_upto S1 3 (some ⟨g0, 0, none⟩) 2 2 LS2 a len cap rs 30 U hc2 hS1 hS3 (hr.below hU) ⟨by omega, by omega⟩).mono ?_
    rintro e w' ⟨ao, cp, ys, rfl, h1, h2, h3, h4, h6, h5⟩
    exact ⟨ao, cp, ys, rfl, isRecs_at h1 h4, ⟨h2, h3⟩, (fun y hy b off e => by obtain ⟨x, hx, rfl⟩ := List.mem_map.1 hy; exact h6.out x hx b off e), h5⟩
  clear hr
  refine wp_region_inv (by kernel_rfl) [24, 25, 26, 27, 28, 29, 30, 11] (fun L T u => ∃ (A2 : Nat) (ao : Option Addr) (cp : Nat) (ys : List Go.Proofs.YtcfhhjnbkpgpeaaDoor.RcV) (b6 : Option Addr) (c6 : Nat), Below X2.heap.size X2 u ∧ (L 0 = true → T 24 = .agg #[.int .i64 XA, .int .i64 XB]) ∧ (L 1 = true → T 25 = .agg #[.int .i64 2, .int .i64 XA, .int .i64 XB, .int .i64 0, .int .i64 0, .int .i64 0, .bool true, .slice none 0 0]) ∧ (L 2 = true → T 26 = .slice (some ⟨A2, 0, none⟩) 1 1) ∧ (L 2 = true → L 6 = false → u.ownsRow X2.heap.size 31 8 (.slice (some ⟨A2, 0, none⟩) 1 1) 1 (St.flat RcM.cells [m0 XA XB])) ∧ (L 2 = true → A2 < u.heap.size) ∧ (L 3 = true → T 27 = .agg #[.int .i64 S1, .slice (some ⟨g0, 0, none⟩) 2 2, .int .i64 3]) ∧ (L 4 = true → T 28 = .slice a len cap) ∧ (L 5 = true → T 29 = .slice ao ys.length cp) ∧ (L 5 = true → L 6 = false → RecsAt u ao ys.length cp (ys.map toM)) ∧ (L 5 = true → ((∀ y ∈ ys, recFault S1 LS2 3 y = 0) ∧ (ys.length : Int) ≤ 30)) ∧ (L 5 = true → (∀ y ∈ ys.map toM, IsInts u y.sa y.sl y.sc y.p.zs)) ∧ (L 2 = true → L 5 = true → (∀ y ∈ ys.map toM, ∀ b off, y.sa = some ⟨b, off, none⟩ → y.sl = 0 ∨ b ≠ A2)) ∧ (L 6 = true → T 30 = .slice b6 (1 + ys.length) c6) ∧ (L 6 = true → u.ownsRow X2.heap.size 31 8 (.slice b6 (1 + ys.length) c6) (1 + ys.length) (St.flat RcM.cells ([m0 XA XB] ++ ys.map toM))) ∧ (L 7 = true → T 11 = .slice b6 (1 + ys.length) c6)) (by decide) (by kernel_rfl) (by kernel_rfl) ?_ ?_ ?_
  · exact ⟨0, none, 0, default, none, 0, (Below.refl _ _).drew, nofun, nofun, nofun, nofun, nofun, nofun, nofun, nofun, nofun, nofun, nofun, nofun, nofun, nofun, nofun⟩
  · refine ⟨?_, ?_, ?_, ?_, ?_, ?_, ?_, ?_, trivial⟩
    · rintro L T u hd hk hcl ⟨A2, ao, cp, ys, b6, c6, hb, f0, f1, f2, f2w, f2l, f3, f4, f5, f5w, f5p, f5i, x25, f6, f6w, f7⟩ K hK
      simp only [fr, Act.put, List.setIfInBounds_toArray, List.set_cons_zero, List.set_cons_succ, updO] at hK ⊢
      simp [Region.binds] at hd
      obtain ⟨⟨x0, x1, x2, x3⟩, x4, x5, x6⟩ := KC.out u hb
      rw [if_pos (by rfl)]
      simp only [Oper.wpv]
      go_simp
      exact hK _ _ ⟨A2, ao, cp, ys, b6, c6, hb, fun _ => rfl, f1, f2, f2w, f2l, f3, f4, f5, f5w, f5p, f5i, x25, f6, f6w, f7⟩
    · rintro L T u hd hk hcl ⟨A2, ao, cp, ys, b6, c6, hb, f0, f1, f2, f2w, f2l, f3, f4, f5, f5w, f5p, f5i, x25, f6, f6w, f7⟩ K hK
      simp only [fr, Act.put, List.setIfInBounds_toArray, List.set_cons_zero, List.set_cons_succ, updO] at hK ⊢
      simp [Region.binds] at hd
      have g0 := f0 (by simp [hd])
      rw [if_pos (by rfl)]
      simp only [Oper.wpv]
      go_simp
      exact hK _ _ ⟨A2, ao, cp, ys, b6, c6, hb, f0, fun _ => rfl, f2, f2w, f2l, f3, f4, f5, f5w, f5p, f5i, x25, f6, f6w, f7⟩
    · rintro L T u hd hk hcl ⟨A2, ao, cp, ys, b6, c6, hb, f0, f1, f2, f2w, f2l, f3, f4, f5, f5w, f5p, f5i, x25, f6, f6w, f7⟩ K hK
      simp only [fr, Act.put, List.setIfInBounds_toArray, List.set_cons_zero, List.set_cons_succ, updO] at hK ⊢
      simp [Region.binds] at hd
      have g1 := f1 (by simp [hd])
      have k6 := hcl 6 _ rfl
      simp [Region.binds] at k6
      have k7 := hcl 7 _ rfl
      simp [Region.binds] at k7
      have hg : Below u.heap.size u (u.alloc (.cells #[.int .i64 2, .int .i64 XA, .int .i64 XB, .int .i64 0, .int .i64 0, .int .i64 0, .bool true, .slice none 0 0] 31)) := (Below.refl _ _).alloc (Nat.le_refl _) _
      rw [if_pos (by rfl)]
      simp only [Oper.wpv]
      go_simp
      exact hK _ _ ⟨u.heap.size, ao, cp, ys, b6, c6, (nT hb hg), f0, f1, fun _ => rfl, fun _ _ => Go.Proofs.YtcfhhjnbkpgpeaaDoor.Co.own_base (one_row u #[.int .i64 2, .int .i64 XA, .int .i64 XB, .int .i64 0, .int .i64 0, .int .i64 0, .bool true, .slice none 0 0] 31 8 rfl) hb.size, fun _ => by simp, f3, f4, f5, fun h0 h1 => (f5w h0 h1).below hg, f5p, fun h0 => (fun y hy => ((f5i h0) y hy).below hg), fun _ h => fun y hy b off e => by
        by_cases h0 : y.sl = 0
        · exact Or.inl h0
        · obtain ⟨b2, o2, e2, hlt, -⟩ := ((f5i (show L 5 = true from h) y hy)).2.2.2.2 (by omega)
          rw [e] at e2
          simp at e2
          exact Or.inr (by omega), fun h => absurd (show L 6 = true from h) (by intro hh; have := k6 hh; simp [hk] at this), fun h => absurd (show L 6 = true from h) (by intro hh; have := k6 hh; simp [hk] at this), fun h => absurd (show L 7 = true from h) (by intro hh; have := k7 hh; have h2 := k6 (by simp [this]); simp [hk] at h2)⟩
    · rintro L T u hd hk hcl ⟨A2, ao, cp, ys, b6, c6, hb, f0, f1, f2, f2w, f2l, f3, f4, f5, f5w, f5p, f5i, x25, f6, f6w, f7⟩ K hK
      simp only [fr, Act.put, List.setIfInBounds_toArray, List.set_cons_zero, List.set_cons_succ, updO] at hK ⊢
      simp [Region.binds] at hd
      obtain ⟨⟨x0, x1, x2, x3⟩, x4, x5, x6⟩ := KC.out u hb
      rw [if_pos (by rfl)]
      simp only [Oper.wpv]
      go_simp
      exact hK _ _ ⟨A2, ao, cp, ys, b6, c6, hb, f0, f1, f2, f2w, f2l, fun _ => rfl, f4, f5, f5w, f5p, f5i, x25, f6, f6w, f7⟩
    · rintro L T u hd hk hcl ⟨A2, ao, cp, ys, b6, c6, hb, f0, f1, f2, f2w, f2l, f3, f4, f5, f5w, f5p, f5i, x25, f6, f6w, f7⟩ K hK
      simp only [fr, Act.put, List.setIfInBounds_toArray, List.set_cons_zero, List.set_cons_succ, updO] at hK ⊢
      simp [Region.binds] at hd
      rw [if_pos (by rfl)]
      simp only [Oper.wpv]
      go_simp
      exact hK _ _ ⟨A2, ao, cp, ys, b6, c6, hb, f0, f1, f2, f2w, f2l, f3, fun _ => rfl, f5, f5w, f5p, f5i, x25, f6, f6w, f7⟩
    · rintro L T u hd hk hcl ⟨A2, ao, cp, ys, b6, c6, hb, f0, f1, f2, f2w, f2l, f3, f4, f5, f5w, f5p, f5i, x25, f6, f6w, f7⟩ K hK
      simp only [fr, Act.put, List.setIfInBounds_toArray, List.set_cons_zero, List.set_cons_succ, updO] at hK ⊢
      simp [Region.binds] at hd
      have g3 := f3 (by simp [hd])
      have g4 := f4 (by simp [hd])
      have k6 := hcl 6 _ rfl
      simp [Region.binds] at k6
      have k7 := hcl 7 _ rfl
      simp [Region.binds] at k7
      rw [if_pos (by rfl)]
      simp only [Oper.wpv]
      go_simp
      refine (HRc.out u hb).mono ?_
      rintro e u1 ⟨ao, cp, ys, rfl, q1, q2, q3, hg⟩
      exact hK _ _ ⟨A2, ao, cp, ys, b6, c6, (nT hb hg), f0, f1, f2, fun h0 h1 => own_below (f2w h0 h1) hg, fun h0 => Nat.lt_of_lt_of_le (f2l h0) hg.size, f3, f4, fun _ => rfl, fun _ _ => q1, fun _ => q2, fun _ => q1.ints, fun h _ => fun y hy b off e => Or.inr (by have := q3 y hy b off e; have := f2l (show L 2 = true from h); omega), fun h => absurd (show L 6 = true from h) (by intro hh; have := k6 hh; simp [hk] at this), fun h => absurd (show L 6 = true from h) (by intro hh; have := k6 hh; simp [hk] at this), fun h => absurd (show L 7 = true from h) (by intro hh; have := k7 hh; have h2 := k6 (by simp [this]); simp [hk] at h2)⟩
    · rintro L T u hd hk hcl ⟨A2, ao, cp, ys, b6, c6, hb, f0, f1, f2, f2w, f2l, f3, f4, f5, f5w, f5p, f5i, x25, f6, f6w, f7⟩ K hK
      simp only [fr, Act.put, List.setIfInBounds_toArray, List.set_cons_zero, List.set_cons_succ, updO] at hK ⊢
      simp [Region.binds] at hd
      have g2 := f2 (by simp [hd])
      have o2 := f2w (by simp [hd]) hk
      have g5 := f5 (by simp [hd])
      have r5 := f5w (by simp [hd]) hk
      have p5 := f5p (by simp [hd])
      have H2 : L 2 = true := by simp [hd]
      have H5 : L 5 = true := by simp [hd]
      have k7 := hcl 7 _ rfl
      simp [Region.binds] at k7
      rw [if_pos (by rfl)]
      simp only [Oper.wpv]
      refine St.wpv_append_row ER (.tmp 26) (.tmp 29) (by rfl) X2.heap.size (.slice (some ⟨A2, 0, none⟩) 1 1) 1 [m0 XA XB] g2 o2 ao ys.length cp (ys.map toM) g5 r5.row (by unfold maxLen; omega) (by omega) hb.size ?_
      intro b6 c6 u6 own6 gr6 at6
      have hu6 : Below X2.heap.size X2 u6 := hb.grown gr6 hb.size (fun q hq => (o2.lt q hq).1)
      have hgs : u.heap.size ≤ u6.heap.size := gr6.size
      exact hK _ _ ⟨A2, ao, cp, ys, b6, c6, hu6, f0, f1, f2, fun _ h => Bool.noConfusion (show true = false from h), fun h => Nat.lt_of_lt_of_le (f2l h) hgs, f3, f4, f5, fun _ h => Bool.noConfusion (show true = false from h), f5p, fun _ => fun y hy => by
        have hx := x25 H2 H5 y hy
        by_cases h0 : y.sl = 0
        · obtain ⟨z1, z2, z3, z4, z5⟩ := f5i H5 y hy
          exact ⟨z1, z2, z3, z4, fun h9 => absurd h9 (by omega)⟩
        · exact isI_grown (f5i H5 y hy) gr6 (fun b off e e2 => by rcases hx b off e with h | h; exact h0 h; simp [Value.ownBlock] at e2; exact h e2), x25, fun _ => rfl, fun _ => own6, fun h => absurd (show L 7 = true from h) (by intro hh; have := k7 hh; simp [hk] at this)⟩
    · rintro L T u hd hk hcl ⟨A2, ao, cp, ys, b6, c6, hb, f0, f1, f2, f2w, f2l, f3, f4, f5, f5w, f5p, f5i, x25, f6, f6w, f7⟩ K hK
      simp only [fr, Act.put, List.setIfInBounds_toArray, List.set_cons_zero, List.set_cons_succ, updO] at hK ⊢
      simp [Region.binds] at hd
      have g6 := f6 (by simp [hd])
      rw [if_pos (by rfl)]
      simp only [Oper.wpv]
      go_simp
      exact hK _ _ ⟨A2, ao, cp, ys, b6, c6, hb, f0, f1, f2, f2w, f2l, f3, f4, f5, f5w, f5p, f5i, x25, f6, f6w, fun _ => rfl⟩
  · rintro L T u hl ⟨A2, ao, cp, ys, b6, c6, hb, f0, f1, f2, f2w, f2l, f3, f4, f5, f5w, f5p, f5i, x25, f6, f6w, f7⟩
    simp only [fr, Act.put, List.setIfInBounds_toArray, List.set_cons_zero, List.set_cons_succ]
    have hOw := f6w (hl 6 (by decide))
    have h11 := f7 (hl 7 (by decide))
    have hPl := f5p (hl 5 (by decide))
    have hIn := f5i (hl 5 (by decide))
    clear f0 f1 f2 f2w f2l f3 f4 f5 f5w f5p f5i x25 f6 f6w f7 KC HRc hl ER
    rw [h11]
    clear h11
    replace cb := cb.below hb cb.lt
    replace xb1 := xb1.below hb xb1.lt
    replace bw := bw.trans (hb.mono bw.size)
    replace hlab := hlab.below hb
    have hRec : RecsAt u b6 (1 + ys.length) c6 (m0 XA XB :: ys.map toM) := by
      refine ⟨(own_isRow (k := 8) (cells := RcM.cells) (fun x => rfl) hOw (by simp; omega)).1, fun r hr => ?_⟩
      rcases List.mem_cons.1 hr with rfl | hr
      · exact isI_nil u
      · exact hIn r hr
    clear hOw hIn
    obtain ⟨hy0, hy30⟩ := hPl
    have hall : ∀ r ∈ (r0 XA XB :: (ys.map toM).map RcM.p), recFault S1 LS2 3 (RcP.v r) = 0 := fun r hr => by
      rcases List.mem_cons.1 hr with rfl | hr
      · have h9 : recFault S1 LS2 3 ⟨2, XA, XB, 0, 0, 0, true, none, 0, 0, []⟩ = 0 := rec_ok hc2 (by omega) (by omega) (by omega) (by omega) (by omega) (by omega) (by omega) rfl (by simp [hasAll, rHasOf, rHas, bit])
        exact h9
      · obtain ⟨x, hx, rfl⟩ := List.mem_map.1 hr
        obtain ⟨y, hy, rfl⟩ := List.mem_map.1 hx
        rw [← recFault_v S1 LS2 3 (toM y) (hRec.ints _ (List.mem_cons_of_mem _ hx)).1]
        exact hy0 y hy
    have HRb : Hid (Calls Tryd.prog 9 #[.agg #[.int .i64 S1, .slice (some ⟨g0, 0, none⟩) 2 2, .int .i64 3], .int .i64 0, .slice b6 (1 + ys.length) c6] u fun e w' => ∃ (q : Rt) (na : Option Addr) (nl nc : Nat) (nx : Int) (m : List (Int × Int)), e = .returned (.tuple #[q.s.val, .agg #[.int .i64 nx, .slice q.a q.js.length q.c], .slice na nl nc, .int .i64 0]) ∧ IsStore w' q.s ∧ (cntErr q.s (XA, XB) = 0 ∧ cntIs q.s (XA, XB) = 0 ∧ q.s.over = (XA, XB) :: m ∧ ∀ t ∈ q.s.over, TxWf t) ∧ Below u.heap.size u w') := by
      have hT := KT.out u bw
      refine (rebuild_ok S1 3 (some ⟨g0, 0, none⟩) 2 2 LS2 0 b6 (1 + ys.length) c6 (m0 XA XB :: ys.map toM) u hlab hRec hT.1 hT.2 (by omega) (rbErr_ok hc2 (by omega) hall)).mono ?_
      rintro e w' ⟨q, na, nc, rfl, h5, h6, h7, h8⟩
      have hlen : ((r0 XA XB :: (ys.map toM).map RcM.p)).length ≤ 1000 := by simp; omega
      have hso : RsOK (recStore (r0 XA XB :: (ys.map toM).map RcM.p)) 24001 := recStore_ok hlen (fun r hr => (rec_tx (hall r hr)).1)
      obtain ⟨m, hm⟩ := first_over hxo ((ys.map toM).map RcM.p)
      have h9 : q.s.data = recStore (r0 XA XB :: (ys.map toM).map RcM.p) := h6
      have hok : OKP q.s.data := by rw [h9]; exact hso.okp
      obtain ⟨n1, n2⟩ := none_left h9 hso hxo hm
      refine ⟨q, na, _, nc, _, m, rfl, h5.st.isStore, ⟨n1, n2, ?_, OKP.wf hok⟩, h8⟩
      have := congrArg PS.over h9
      exact this.trans hm
    clear hall hRec hy0 KT
    have cb_0 : u.cell? ⟨w1.heap.size, 0, none⟩ = some (.int .i64 S1) := (cb.c 0 (by decide)).1
    have cb_1 : u.cell? ⟨w1.heap.size, 1, none⟩ = some (.slice (some ⟨g0, 0, none⟩) 2 2) := (cb.c 1 (by decide)).1
    have cb_2 : u.cell? ⟨w1.heap.size, 2, none⟩ = some (.int .i64 3) := (cb.c 2 (by decide)).1
    have cb_z := cb.lt
    go_upto_region 5 with (go_at_call 9; refine HRb.out.mono ?_; rintro e y1 ⟨⟨⟨ia, il, ic, la, ll, lc, da, dl, dc, oa, ol, oc, its, lks, dbs, ovs⟩, ja, jc, js⟩, na, nl, nc, nx, m, rfl, hIs, hPl, hb3⟩; simp only [SV.val])
    clear cb_0 cb_1 cb_2 cb_z
    clear HRb
    simp only [] at hIs hPl
    obtain ⟨n1, n2, n3, n4⟩ := hPl
    replace cb := cb.below hb3 cb.lt
    replace xb1 := xb1.below hb3 xb1.lt
    replace bw := bw.trans (hb3.mono bw.size)
    replace hlab := hlab.below hb3
    obtain ⟨X3, eX3⟩ : ∃ X : World, X = (y1.alloc (.cells #[.slice ia il ic, .slice la ll lc, .slice da dl dc, .slice oa ol oc] 38)).alloc (.cells #[.int .i64 nx, .slice ja js.length jc] 41) := ⟨_, rfl⟩
    have sb : BoxN X3 y1.heap.size 4 [.slice ia il ic, .slice la ll lc, .slice da dl dc, .slice oa ol oc] := by rw [eX3]; have h8 := boxn_new y1 #[.slice ia il ic, .slice la ll lc, .slice da dl dc, .slice oa ol oc] 38 4 rfl; exact h8.below ((Below.refl _ _).alloc (Nat.le_refl _) _) h8.lt
    have db : BoxN X3 (y1.heap.size + 1) 2 [.int .i64 nx, .slice ja js.length jc] := by rw [eX3]; have h8 := boxn_new (y1.alloc (.cells #[.slice ia il ic, .slice la ll lc, .slice da dl dc, .slice oa ol oc] 38)) #[.int .i64 nx, .slice ja js.length jc] 41 2 rfl; simpa using h8
    have bX3 : Below y1.heap.size y1 X3 := by rw [eX3]; exact ((Below.refl _ _).alloc (Nat.le_refl _) _).alloc (by simp) _
    rw [← eX3]
    clear eX3
    replace cb := cb.below bX3 cb.lt
    replace xb1 := xb1.below bX3 xb1.lt
    replace bw := bw.trans (bX3.mono bw.size)
    replace hlab := hlab.below bX3
    replace hIs := hIs.below bX3
    have HWr : Hid (Calls Tryd.prog 12 #[.agg #[.slice ia il ic, .slice la ll lc, .slice da dl dc, .slice oa ol oc], .agg #[.int .i64 XA, .int .i64 XB]] X3 fun e w' => e = .returned (.tuple #[.int .i64 0, .int .i64 0]) ∧ Below X3.heap.size X3 w') := by
      have h8 := St.writes_count ⟨ia, il, ic, la, ll, lc, da, dl, dc, oa, ol, oc, its, lks, dbs, ovs⟩ (XA, XB) X3 hIs n4
      rw [n1, n2] at h8
      exact h8
    clear n1 n2 n4
    have sb_0 : X3.cell? ⟨y1.heap.size, 0, none⟩ = some (.slice ia il ic) := (sb.c 0 (by decide)).1
    have sb_1 : X3.cell? ⟨y1.heap.size, 1, none⟩ = some (.slice la ll lc) := (sb.c 1 (by decide)).1
    have sb_2 : X3.cell? ⟨y1.heap.size, 2, none⟩ = some (.slice da dl dc) := (sb.c 2 (by decide)).1
    have sb_3 : X3.cell? ⟨y1.heap.size, 3, none⟩ = some (.slice oa ol oc) := (sb.c 3 (by decide)).1
    have sb_z := sb.lt
    have xb1_0 : X3.cell? ⟨w2.heap.size, 0, none⟩ = some (.int .i64 XA) := (xb1.c 0 (by decide)).1
    have xb1_1 : X3.cell? ⟨w2.heap.size, 1, none⟩ = some (.int .i64 XB) := (xb1.c 1 (by decide)).1
    have xb1_z := xb1.lt
    go_upto_region 6 with (go_at_call 12; refine HWr.out.mono ?_; rintro e y2 ⟨rfl, hb4⟩)
    clear sb_0 sb_1 sb_2 sb_3 sb_z xb1_0 xb1_1 xb1_z
    clear HWr
    replace cb := cb.below hb4 cb.lt
    replace xb1 := xb1.below hb4 xb1.lt
    replace sb := sb.below hb4 sb.lt
    replace db := db.below hb4 db.lt
    replace bw := bw.trans (hb4.mono bw.size)
    replace hlab := hlab.below hb4
    replace hIs := hIs.below hb4
    have hOv : IsRow 2 txCells y2 oa ol oc ovs := hIs.over
    rw [n3] at hOv
    have hol : ol = m.length + 1 := by have := hOv.1; simp at this; omega
    have hoc : ol ≤ oc := hOv.2.1
    have hom : oc ≤ maxLen := hOv.2.2.1
    unfold maxLen at hom
    obtain ⟨bo, oo, rfl, hbo, hco⟩ := hOv.2.2.2.2 (by omega)
    have o0 := hco 0 (by omega) 0 (by decide)
    have o1 := hco 0 (by omega) 1 (by decide)
    simp only [txCells, List.getD_cons_zero, List.getElem?_cons_zero, List.getElem?_cons_succ, Nat.zero_mul, Nat.add_zero] at o0 o1
    have hol0 : (0 : Int) < (ol : Int) := by omega
    have hol1 : 0 < ol := by omega
    have hoc0 : 0 < oc := by omega
    clear hol hOv hco n3 hIs hoc hom
    have sb_0 : y2.cell? ⟨y1.heap.size, 0, none⟩ = some (.slice ia il ic) := (sb.c 0 (by decide)).1
    have sb_1 : y2.cell? ⟨y1.heap.size, 1, none⟩ = some (.slice la ll lc) := (sb.c 1 (by decide)).1
    have sb_2 : y2.cell? ⟨y1.heap.size, 2, none⟩ = some (.slice da dl dc) := (sb.c 2 (by decide)).1
    have sb_3 : y2.cell? ⟨y1.heap.size, 3, none⟩ = some (.slice (some ⟨bo, oo, none⟩) ol oc) := (sb.c 3 (by decide)).1
    have sb_z := sb.lt
    have xb1_0 : y2.cell? ⟨w2.heap.size, 0, none⟩ = some (.int .i64 XA) := (xb1.c 0 (by decide)).1
    have xb1_1 : y2.cell? ⟨w2.heap.size, 1, none⟩ = some (.int .i64 XB) := (xb1.c 1 (by decide)).1
    have xb1_z := xb1.lt
    clear cb sb db xb1 hlab
    go_quiet (fail)
    go_wp2
    go_ret
    first
      | exact ⟨rfl, bw⟩
      | exact ⟨rfl, below_drewQ bw _⟩
end Go.Proofs.YtcfhhjnbkpgpeaaDoor.Rb
