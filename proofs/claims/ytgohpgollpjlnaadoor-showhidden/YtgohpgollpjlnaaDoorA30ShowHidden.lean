/- The walk of the law ShowHidden: at any numbers it returns true and leaves what was in memory. -/
import Derived.Test.YtgohpgollpjlnaaDoorM29ShowHidden
import Derived.Test.YtgohpgollpjlnaaDoorM24ShowHidden
import Derived.LoopTactic
namespace Go.Proofs.YtgohpgollpjlnaaDoor.Cn
open Go.ChangeShapes Go.WideShapes Go.ChangeAt Go.RowKit
open Go.Proofs.YtgohpgollpjlnaaDoor.St (BoxN boxn_new SV PS IsStore IsRow DbV storeOK TxWf own_below txOK OwnStore Gd IsRaws mkAll)
open Go.Proofs.YtgohpgollpjlnaaDoor.Pt (IsStores NV IsNotes LS2 cfg_two two_any)
set_option linter.unusedVariables false

theorem hT2 {u v z : World} (h : Below u.heap.size u v) (k : Below v.heap.size v z) : Below u.heap.size u z := h.trans (k.mono h.size)
/-- Two stores in a slice that was just made. -/
theorem two_of {u : World} {r q : SV} (h : IsStore u r) (hw : ∀ t ∈ r.over, TxWf t) (h' : IsStore u q) (hw' : ∀ t ∈ q.over, TxWf t) : IsStores (u.alloc (.cells #[.slice r.ia r.il r.ic, .slice r.la r.ll r.lc, .slice r.da r.dl r.dc, .slice r.oa r.ol r.oc, .slice q.ia q.il q.ic, .slice q.la q.ll q.lc, .slice q.da q.dl q.dc, .slice q.oa q.ol q.oc] 55)) (some ⟨u.heap.size, 0, none⟩) 2 2 [r, q] := by
  have hb : (u.alloc (.cells #[.slice r.ia r.il r.ic, .slice r.la r.ll r.lc, .slice r.da r.dl r.dc, .slice r.oa r.ol r.oc, .slice q.ia q.il q.ic, .slice q.la q.ll q.lc, .slice q.da q.dl q.dc, .slice q.oa q.ol q.oc] 55)).heap[u.heap.size]? = some (.cells #[.slice r.ia r.il r.ic, .slice r.la r.ll r.lc, .slice r.da r.dl r.dc, .slice r.oa r.ol r.oc, .slice q.ia q.il q.ic, .slice q.la q.ll q.lc, .slice q.da q.dl q.dc, .slice q.oa q.ol q.oc] 55 (0, 0)) := heap_alloc_new u _
  refine ⟨⟨rfl, Nat.le_refl _, by unfold maxLen; omega, fun e => by simp at e, fun _ => ⟨u.heap.size, 0, rfl, by simp, fun i hi j hj => ?_⟩⟩, fun i hi => ?_⟩
  · rw [cell_of_row _ u.heap.size _ _ 55 (0, 0) hb]
    rcases (by omega : i = 0 ∨ i = 1) with rfl | rfl <;> rcases (by omega : j = 0 ∨ j = 1 ∨ j = 2 ∨ j = 3) with rfl | rfl | rfl | rfl <;> rfl
  · rcases (by omega : i = 0 ∨ i = 1) with rfl | rfl
    · exact ⟨h.below ((Below.refl _ _).alloc (Nat.le_refl _) _), hw⟩
    · exact ⟨h'.below ((Below.refl _ _).alloc (Nat.le_refl _) _), hw'⟩
theorem nls_of (X : World) (p : Nat) (x y : Value) (n1 n2 : NL) (hp : ObAt X p #[x, y] 49) (hx : x = .slice n1.a n1.n n1.c) (hy : y = .slice n2.a n2.n n2.c) (h1 : IsNotes X n1.a n1.n n1.c n1.ns) (h2 : IsNotes X n2.a n2.n n2.c n2.ns) : IsNLs X (some ⟨p, 0, none⟩) 2 2 [n1, n2] := by
  subst hx
  subst hy
  refine ⟨⟨rfl, Nat.le_refl _, by unfold maxLen; omega, fun e => by simp at e, fun _ => ⟨p, 0, rfl, hp.lt, fun i hi j hj => ?_⟩⟩, fun i hi => ?_⟩
  · obtain rfl : j = 0 := by omega
    rcases (by omega : i = 0 ∨ i = 1) with rfl | rfl
    · exact hp.cell 0
    · exact hp.cell 1
  · rcases (by omega : i = 0 ∨ i = 1) with rfl | rfl
    · exact h1
    · exact h2
theorem note_of (X : World) (p : Nat) (x : NV) (hp : ObAt X p #[.int .i64 x.site, .int .i64 x.num, .bool x.yes, .bool x.dmg] 48) : IsNotes X (some ⟨p, 0, none⟩) 1 1 [x] := by
  refine ⟨rfl, Nat.le_refl _, by unfold maxLen; omega, (fun e => by simp at e), fun _ => ⟨p, 0, rfl, hp.lt, fun i hi j hj => ?_⟩⟩
  obtain rfl : i = 0 := by omega
  rcases (by omega : j = 0 ∨ j = 1 ∨ j = 2 ∨ j = 3) with rfl | rfl | rfl | rfl
  · exact hp.cell 0
  · exact hp.cell 1
  · exact hp.cell 2
  · exact hp.cell 3
theorem ok_none : notesOK [nA] = true := by decide
theorem ok_nb : notesOK [nB] = true := by decide
theorem ok_nil : notesOK [] = true := rfl
/-- What is told of two stores that say what they say. -/
theorem show_two (g0 : Nat) (l : Int) (hl01 : l = 0 ∨ l = 1) (r q : SV) (D E : PS) (n1 n2 : NL) (sb nb : Nat) (xk xl xs xn : Int) (u : World) (hL : IsLabs u (some ⟨g0, 0, none⟩) 2 2 LS2) (hS : IsStores u (some ⟨sb, 0, none⟩) 2 2 [r, q]) (hN : IsNLs u (some ⟨nb, 0, none⟩) 2 2 [n1, n2]) (hr : storeOK r = true) (hq : storeOK q = true) (hD : r.data = D) (hE : q.data = E) (h3 : n1.ns = [nA]) (h4 : n2.ns = [nB] ∨ n2.ns = []) (hk : xk = 1 ∨ xk = 2 ∨ xk = 4) (hT : ∀ U, Below u.heap.size u U → Lib.TabIs Tryd.prog U "internal/strconv.uint64pow10" .u64 Lib.pow10Tab) :
    Calls Tryd.prog 11 #[.agg #[.int .i64 1, .slice (some ⟨g0, 0, none⟩) 2 2, .int .i64 3], .int .i64 l, .slice (some ⟨sb, 0, none⟩) 2 2, .slice (some ⟨nb, 0, none⟩) 2 2, .agg #[.int .i64 xk, .int .i64 xl, .int .i64 xs, .int .i64 xn, .bool false]] u fun e w' => e = .returned (.tuple #[.string (showTxt LS2 l [D.svd, E.svd] [n1, n2] ⟨xk, xl, xs, xn, false⟩), .int .i64 0]) ∧ Below u.heap.size u w' := by
  have hz : shErr 1 LS2 3 l [r, q] [n1, n2] = 0 := sh_two hl01 hr hq (by rw [h3]; exact ok_none) (by rcases h4 with h | h <;> rw [h]; exact ok_nb; exact ok_nil)
  refine (show_any 1 3 (some ⟨g0, 0, none⟩) 2 2 LS2 l (some ⟨sb, 0, none⟩) 2 2 [r, q] (some ⟨nb, 0, none⟩) 2 2 [n1, n2] xk xl xs xn false u hL hS hN (fun _ => audit_short (n1 := n1.n) (n2 := n2.n) (Or.inl h3) h4) hT).mono ?_
  rintro e w' ⟨rfl, h2⟩
  refine ⟨?_, h2⟩
  unfold showOut showErr
  rw [hz, if_pos rfl, if_pos rfl, txt_data, hD, hE]
  unfold kindErr
  rw [if_pos hk]
set_option maxRecDepth 100000 in
set_option maxHeartbeats 16000000 in
theorem showHidden_walk (a : Option Addr) (len cap : Nat) (rs : List St.RV) (a1 : Option Addr) (len1 cap1 : Nat) (rs1 : List St.RV) (a2 : Option Addr) (len2 cap2 : Nat) (rs2 : List St.RV) (kd l pa pb : Int) (w : World) (hr : IsRaws w a len cap rs) (hr1 : IsRaws w a1 len1 cap1 rs1) (hr2 : IsRaws w a2 len2 cap2 rs2) (wk : (Lit.int .i64 kd).wf = true) (wl : (Lit.int .i64 l).wf = true) (wa : (Lit.int .i64 pa).wf = true) (wb : (Lit.int .i64 pb).wf = true) (hT : ∀ U, Below w.heap.size w U → Lib.TabIs Tryd.prog U "internal/strconv.uint64pow10" .u64 Lib.pow10Tab) :
    Calls Tryd.prog 7 #[.slice a len cap, .slice a1 len1 cap1, .slice a2 len2 cap2, .int .i64 kd, .int .i64 l, .int .i64 pa, .int .i64 pb] w fun e w' => e = .returned (.bool true) ∧ Below w.heap.size w w' := by
  have bdkd : -9223372036854775808 ≤ kd ∧ kd ≤ 9223372036854775807 := by
    simp [Lit.wf, IntKind.min, IntKind.max, IntKind.signed, IntKind.bits] at wk
    omega
  clear wk
  have bdl : -9223372036854775808 ≤ l ∧ l ≤ 9223372036854775807 := by
    simp [Lit.wf, IntKind.min, IntKind.max, IntKind.signed, IntKind.bits] at wl
    omega
  clear wl
  have bdpa : -9223372036854775808 ≤ pa ∧ pa ≤ 9223372036854775807 := by
    simp [Lit.wf, IntKind.min, IntKind.max, IntKind.signed, IntKind.bits] at wa
    omega
  clear wa
  have bdpb : -9223372036854775808 ≤ pb ∧ pb ≤ 9223372036854775807 := by
    simp [Lit.wf, IntKind.min, IntKind.max, IntKind.signed, IntKind.bits] at wb
    omega
  clear wb
  have HT : Hid (∀ U, Below w.heap.size w U → Lib.TabIs Tryd.prog U "internal/strconv.uint64pow10" .u64 Lib.pow10Tab) := hT
  clear hT
  have hTw := two_any 0 w (by omega)
  have e03 : (1 : Int) + pk 0 3 = 1 := by decide
  rw [e03] at hTw
  clear e03
  have hpK := pk_bd kd 3 (by omega)
  have hPK := fun u => picked_any kd 3 u bdkd (by omega) (by omega)
  obtain ⟨KX, eKX⟩ : ∃ x : Nat, (x : Int) = pk kd 3 := ⟨(pk kd 3).toNat, by omega⟩
  rw [← eKX] at hpK hPK
  have hKX : KX < 3 := by omega
  clear eKX hpK
  have hpL := pk_bd l 2 (by omega)
  have hpA := pk_bd pa 2 (by omega)
  have hpB := pk_bd pb 3 (by omega)
  obtain ⟨LX, eL⟩ : ∃ x : Nat, (x : Int) = pk l 2 := ⟨(pk l 2).toNat, by omega⟩
  obtain ⟨AX, eA⟩ : ∃ x : Nat, (x : Int) = pk pa 2 := ⟨(pk pa 2).toNat, by omega⟩
  obtain ⟨BX, eB⟩ : ∃ x : Nat, (x : Int) = pk pb 3 := ⟨(pk pb 3).toNat, by omega⟩
  rw [← eL] at hpL
  rw [← eA] at hpA
  rw [← eB] at hpB
  have EL : Hid ((LX : Int) = pk l 2 ∧ (AX : Int) = pk pa 2 ∧ (BX : Int) = pk pb 3) := ⟨eL, eA, eB⟩
  clear eL eA eB
  go_enter Tryd.func7, Tryd.ntmps7
  go_upto_region 2 with (go_at_call 15; refine hTw.mono ?_; rintro e w1 ⟨g0, rfl, hl, hg0, hb1⟩)
  clear hTw
  obtain ⟨X1, eX1⟩ : ∃ X : World, X = w1.alloc (.cells #[.int .i64 1, .slice (some ⟨g0, 0, none⟩) 2 2, .int .i64 3] 32) := ⟨_, rfl⟩
  have oC : ObAt X1 w1.heap.size #[.int .i64 1, .slice (some ⟨g0, 0, none⟩) 2 2, .int .i64 3] 32 := by rw [eX1]; exact ObAt.new w1 _ _
  have bX1 : Below w1.heap.size w1 X1 := by rw [eX1]; exact (Below.refl _ _).alloc (Nat.le_refl _) _
  rw [← eX1]
  clear eX1
  have bwX := hb1.trans (bX1.mono hb1.size)
  have hlX := hl.below bX1
  clear hl hb1
  have hwb : IntKind.i64.wrap (1 + (BX : Int)) = 1 + (BX : Int) := by simp [IntKind.wrap, IntKind.bits, IntKind.signed]; omega
  rcases (by omega : KX = 0 ∨ KX = 1 ∨ KX = 2) with rfl | rfl | rfl
  · go_upto_region 3 with (go_at_call 13; refine (hPK _).mono ?_; rintro e u ⟨rfl, hu⟩; rw [hu]; clear hu)
    go_upto_region 6 with (fail)
    clear hPK
    obtain ⟨X2, eX2⟩ : ∃ X : World, X = (X1.alloc (.cells #[.int .i64 1, .int .i64 2, .int .i64 4] 3)).alloc (.cells #[.int .i64 1, .int .i64 0, .int .i64 0, .int .i64 0, .bool false] 25) := ⟨_, rfl⟩
    have oX : ObAt X2 (X1.heap.size + 1) #[.int .i64 1, .int .i64 0, .int .i64 0, .int .i64 0, .bool false] 25 := by rw [eX2]; have h8 := ObAt.new (X1.alloc (.cells #[.int .i64 1, .int .i64 2, .int .i64 4] 3)) #[.int .i64 1, .int .i64 0, .int .i64 0, .int .i64 0, .bool false] 25; simpa using h8
    have bX2 : Below X1.heap.size X1 X2 := by rw [eX2]; exact ((Below.refl _ _).alloc (Nat.le_refl _) _).alloc (by simp) _
    rw [← eX2]
    clear eX2
    go_upto_region 7 with (fail)
    obtain ⟨Y, eY⟩ : ∃ X : World, X = ((X2.alloc (.cells #[.int .i64 0, .int .i64 1, .bool false, .bool false] 48)).alloc (.cells #[.int .i64 0, .int .i64 2, .bool true, .bool false] 48)).alloc (.cells #[.slice (some ⟨X2.heap.size, 0, none⟩) 1 1, .slice (some ⟨X2.heap.size + 1, 0, none⟩) 1 1] 49) := ⟨_, rfl⟩
    have bA1 : Below X2.heap.size X2 (X2.alloc (.cells #[.int .i64 0, .int .i64 1, .bool false, .bool false] 48)) := (Below.refl _ _).alloc (Nat.le_refl _) _
    have oA : ObAt Y X2.heap.size #[.int .i64 0, .int .i64 1, .bool false, .bool false] 48 := by rw [eY]; exact ((ObAt.new X2 _ _).below ((Below.refl _ _).alloc (Nat.le_refl _) _)).below ((Below.refl _ _).alloc (Nat.le_refl _) _)
    have oB : ObAt Y (X2.heap.size + 1) #[.int .i64 0, .int .i64 2, .bool true, .bool false] 48 := by
      rw [eY]
      have h8 := (ObAt.new (X2.alloc (.cells #[.int .i64 0, .int .i64 1, .bool false, .bool false] 48)) #[.int .i64 0, .int .i64 2, .bool true, .bool false] 48).below ((Below.refl _ _).alloc (Nat.le_refl _) (.cells #[.slice (some ⟨X2.heap.size, 0, none⟩) 1 1, .slice (some ⟨X2.heap.size + 1, 0, none⟩) 1 1] 49))
      simpa using h8
    have oN : ObAt Y (X2.heap.size + 1 + 1) #[.slice (some ⟨X2.heap.size, 0, none⟩) 1 1, .slice (some ⟨X2.heap.size + 1, 0, none⟩) 1 1] 49 := by
      rw [eY]
      have h8 := ObAt.new ((X2.alloc (.cells #[.int .i64 0, .int .i64 1, .bool false, .bool false] 48)).alloc (.cells #[.int .i64 0, .int .i64 2, .bool true, .bool false] 48)) #[.slice (some ⟨X2.heap.size, 0, none⟩) 1 1, .slice (some ⟨X2.heap.size + 1, 0, none⟩) 1 1] 49
      simpa using h8
    have bY : Below X2.heap.size X2 Y := by rw [eY]; exact (((Below.refl _ _).alloc (Nat.le_refl _) _).alloc (by simp) _).alloc (by simp; omega) _
    rw [← eY]
    clear eY bA1
    have bY1 : Below X1.heap.size X1 Y := bX2.trans (bY.mono bX2.size)
    have bwY : Below w.heap.size w Y := bwX.trans (bY1.mono bwX.size)
    have KV : Hid (∀ U, Below Y.heap.size Y U → ObAt U w1.heap.size #[.int .i64 1, .slice (some ⟨g0, 0, none⟩) 2 2, .int .i64 3] 32 ∧ ObAt U (X1.heap.size + 1) #[.int .i64 1, .int .i64 0, .int .i64 0, .int .i64 0, .bool false] 25 ∧ ObAt U (X2.heap.size + 1 + 1) #[.slice (some ⟨X2.heap.size, 0, none⟩) 1 1, .slice (some ⟨X2.heap.size + 1, 0, none⟩) 1 1] 49 ∧ IsLabs U (some ⟨g0, 0, none⟩) 2 2 LS2 ∧ IsNotes U (some ⟨X2.heap.size, 0, none⟩) 1 1 [nA] ∧ IsNotes U (some ⟨X2.heap.size + 1, 0, none⟩) 1 1 [nB] ∧ Below w.heap.size w U) := fun U hU =>
      ⟨(oC.below bY1).below hU, (oX.below bY).below hU, oN.below hU, (hlX.below bY1).below hU, St.IsRow.below (note_of Y _ nA oA) hU, St.IsRow.below (note_of Y _ nB oB) hU, bwY.trans (hU.mono bwY.size)⟩
    have KT : Hid (∀ U, Below Y.heap.size Y U → ∀ Z, Below U.heap.size U Z → Lib.TabIs Tryd.prog Z "internal/strconv.uint64pow10" .u64 Lib.pow10Tab) := fun U hU Z hZ => HT.out Z ((KV.out U hU).2.2.2.2.2.2.trans (hZ.mono (KV.out U hU).2.2.2.2.2.2.size))
    have KR : Hid (∀ U, Below Y.heap.size Y U → ∀ (a : Option Addr) (len cap : Nat) (rs : List St.RV), IsRaws w a len cap rs → Calls Tryd.prog 16 #[.slice a len cap, .int .i64 20] U fun e w' => ∃ r : SV, e = .returned r.val ∧ OwnStore w' U.heap.size r ∧ Gd r.data 961 ∧ r.data = mkAll rs 20 ∧ Below U.heap.size U w') := fun U hU a len cap rs h => St.store_data a len cap rs 20 U (h.below ((KV.out U hU).2.2.2.2.2.2)) (by omega)
    have KR0 : Hid (∀ U, Below Y.heap.size Y U → Calls Tryd.prog 16 #[.slice a len cap, .int .i64 20] U fun e w' => ∃ r : SV, e = .returned r.val ∧ OwnStore w' U.heap.size r ∧ Gd r.data 961 ∧ r.data = mkAll rs 20 ∧ Below U.heap.size U w') := fun U hU => KR.out U hU a len cap rs hr
    have KR1 : Hid (∀ U, Below Y.heap.size Y U → Calls Tryd.prog 16 #[.slice a1 len1 cap1, .int .i64 20] U fun e w' => ∃ r : SV, e = .returned r.val ∧ OwnStore w' U.heap.size r ∧ Gd r.data 961 ∧ r.data = mkAll rs1 20 ∧ Below U.heap.size U w') := fun U hU => KR.out U hU a1 len1 cap1 rs1 hr1
    have KR2 : Hid (∀ U, Below Y.heap.size Y U → Calls Tryd.prog 16 #[.slice a2 len2 cap2, .int .i64 20] U fun e w' => ∃ r : SV, e = .returned r.val ∧ OwnStore w' U.heap.size r ∧ Gd r.data 961 ∧ r.data = mkAll rs2 20 ∧ Below U.heap.size U w') := fun U hU => KR.out U hU a2 len2 cap2 rs2 hr2
    obtain ⟨D0, eD0⟩ : ∃ D, D = mkAll rs 20 := ⟨_, rfl⟩
    obtain ⟨D1, eD1⟩ : ∃ D, D = mkAll rs1 20 := ⟨_, rfl⟩
    obtain ⟨D2, eD2⟩ : ∃ D, D = mkAll rs2 20 := ⟨_, rfl⟩
    rw [← eD0] at KR0
    rw [← eD1] at KR1
    rw [← eD2] at KR2
    clear eD0 eD1 eD2 KR oC oX oN oA oB hlX hr hr1 hr2
    obtain ⟨OUT, eOUT⟩ : ∃ x, x = showTxt LS2 0 [D0.svd, D1.svd] [⟨some ⟨X2.heap.size, 0, none⟩, 1, 1, [nA]⟩, ⟨some ⟨X2.heap.size + 1, 0, none⟩, 1, 1, [nB]⟩] ⟨1, 0, 0, 0, false⟩ := ⟨_, rfl⟩
    have HSa : Hid (∀ (r q : SV) (sb : Nat) (U : World), Below Y.heap.size Y U → IsStores U (some ⟨sb, 0, none⟩) 2 2 [r, q] → storeOK r = true → storeOK q = true → r.data = D0 → q.data = D1 → Calls Tryd.prog 11 #[.agg #[.int .i64 1, .slice (some ⟨g0, 0, none⟩) 2 2, .int .i64 3], .int .i64 0, .slice (some ⟨sb, 0, none⟩) 2 2, .slice (some ⟨X2.heap.size + 1 + 1, 0, none⟩) 2 2, .agg #[.int .i64 1, .int .i64 0, .int .i64 0, .int .i64 0, .bool false]] U fun e w' => e = .returned (.tuple #[.string OUT, .int .i64 0]) ∧ Below U.heap.size U w') := fun r q sb U hU hS h1 h2 h3 h4 => by
      obtain ⟨-, -, oN, hL, hA, hB, -⟩ := KV.out U hU
      rw [eOUT]
      exact show_two g0 0 (Or.inl rfl) r q D0 D1 ⟨some ⟨X2.heap.size, 0, none⟩, 1, 1, [nA]⟩ ⟨some ⟨X2.heap.size + 1, 0, none⟩, 1, 1, [nB]⟩ sb (X2.heap.size + 1 + 1) 1 0 0 0 U hL hS (nls_of U _ _ _ _ _ oN rfl rfl hA hB) h1 h2 h3 h4 rfl (Or.inl rfl) (by omega) (KT.out U hU)
    have HSb : Hid (∀ (r q : SV) (sb nb : Nat) (U : World), Below Y.heap.size Y U → IsStores U (some ⟨sb, 0, none⟩) 2 2 [r, q] → BoxN U nb 2 [.slice (some ⟨X2.heap.size, 0, none⟩) 1 1, .slice none 0 0] → storeOK r = true → storeOK q = true → r.data = D0 → q.data = D2 → Calls Tryd.prog 11 #[.agg #[.int .i64 1, .slice (some ⟨g0, 0, none⟩) 2 2, .int .i64 3], .int .i64 0, .slice (some ⟨sb, 0, none⟩) 2 2, .slice (some ⟨nb, 0, none⟩) 2 2, .agg #[.int .i64 1, .int .i64 0, .int .i64 0, .int .i64 0, .bool false]] U fun e w' => e = .returned (.tuple #[.string OUT, .int .i64 0]) ∧ Below U.heap.size U w') := fun r q sb nb U hU hS hN h1 h2 h3 h4 => by
      obtain ⟨-, -, -, hL, hA, hB, -⟩ := KV.out U hU
      rw [eOUT, txt_hidden (b1 := some ⟨X2.heap.size, 0, none⟩) (b2 := none) (o := D2.svd) (m1 := 1) (m2 := 0)]
      refine show_two g0 0 (Or.inl rfl) r q D0 D2 ⟨some ⟨X2.heap.size, 0, none⟩, 1, 1, [nA]⟩ ⟨none, 0, 0, []⟩ sb nb 1 0 0 0 U hL hS ?_ h1 h2 h3 h4 rfl (Or.inr rfl) (by omega) (KT.out U hU)
      refine ⟨⟨rfl, Nat.le_refl _, by unfold maxLen; omega, fun e => by simp at e, fun _ => ⟨nb, 0, rfl, hN.lt, fun i hi j hj => ?_⟩⟩, fun i hi => ?_⟩
      · obtain rfl : j = 0 := by omega
        rcases (by omega : i = 0 ∨ i = 1) with rfl | rfl
        · exact (hN.c 0 (by decide)).1
        · exact (hN.c 1 (by decide)).1
      · rcases (by omega : i = 0 ∨ i = 1) with rfl | rfl
        · exact hA
        · exact St.isRow_nil _ _ _
    have HSc : Hid (∀ (r q : SV) (sb : Nat) (U : World), Below Y.heap.size Y U → IsStores U (some ⟨sb, 0, none⟩) 2 2 [r, q] → storeOK r = true → storeOK q = true → r.data = D0 → q.data = D1 → Calls Tryd.prog 11 #[.agg #[.int .i64 1, .slice (some ⟨g0, 0, none⟩) 2 2, .int .i64 3], .int .i64 1, .slice (some ⟨sb, 0, none⟩) 2 2, .slice (some ⟨X2.heap.size + 1 + 1, 0, none⟩) 2 2, .agg #[.int .i64 4, .int .i64 0, .int .i64 0, .int .i64 0, .bool false]] U fun e w' => e = .returned (.tuple #[.string ALL, .int .i64 0]) ∧ Below U.heap.size U w') := fun r q sb U hU hS h1 h2 h3 h4 => by
      obtain ⟨-, -, oN, hL, hA, hB, -⟩ := KV.out U hU
      have h8 := show_two g0 1 (Or.inr rfl) r q D0 D1 ⟨some ⟨X2.heap.size, 0, none⟩, 1, 1, [nA]⟩ ⟨some ⟨X2.heap.size + 1, 0, none⟩, 1, 1, [nB]⟩ sb (X2.heap.size + 1 + 1) 4 0 0 0 U hL hS (nls_of U _ _ _ _ _ oN rfl rfl hA hB) h1 h2 h3 h4 rfl (Or.inl rfl) (by omega) (KT.out U hU)
      rw [txt_all] at h8
      exact h8
    clear eOUT KT
    have HX : Hid (∀ U, Below Y.heap.size Y U → U.cell? ⟨w1.heap.size, 0, none⟩ = some (.int .i64 1) ∧ U.cell? ⟨w1.heap.size, 1, none⟩ = some (.slice (some ⟨g0, 0, none⟩) 2 2) ∧ U.cell? ⟨w1.heap.size, 2, none⟩ = some (.int .i64 3) ∧ U.cell? ⟨X1.heap.size + 1, 0, none⟩ = some (.int .i64 1) ∧ U.cell? ⟨X1.heap.size + 1, 1, none⟩ = some (.int .i64 0) ∧ U.cell? ⟨X1.heap.size + 1, 2, none⟩ = some (.int .i64 0) ∧ U.cell? ⟨X1.heap.size + 1, 3, none⟩ = some (.int .i64 0) ∧ U.cell? ⟨X1.heap.size + 1, 4, none⟩ = some (.bool false) ∧ U.cell? ⟨X2.heap.size + 1 + 1, 0, none⟩ = some (.slice (some ⟨X2.heap.size, 0, none⟩) 1 1)) := fun U hU => by
      obtain ⟨oC, oX, oN, -⟩ := KV.out U hU
      exact ⟨oC.cell 0, oC.cell 1, oC.cell 2, oX.cell 0, oX.cell 1, oX.cell 2, oX.cell 3, oX.cell 4, oN.cell 0⟩
    have hY0 : Below Y.heap.size Y Y := Below.refl _ _
    refine wp_region_inv (by kernel_rfl) [52, 53, 54, 55, 56, 57, 58, 59, 60, 51, 61, 62, 18, 19] (fun L T u => ∃ (sr : SV) (sq : SV) (bA : Nat), Below Y.heap.size Y u ∧ (L 0 = true → T 52 = .agg #[.int .i64 1, .slice (some ⟨g0, 0, none⟩) 2 2, .int .i64 3]) ∧ (L 1 = true → T 53 = .slice a len cap) ∧ (L 2 = true → T 54 = .agg #[.slice sr.ia sr.il sr.ic, .slice sr.la sr.ll sr.lc, .slice sr.da sr.dl sr.dc, .slice sr.oa sr.ol sr.oc]) ∧ (L 3 = true → T 55 = .slice a1 len1 cap1) ∧ (L 4 = true → T 56 = .agg #[.slice sq.ia sq.il sq.ic, .slice sq.la sq.ll sq.lc, .slice sq.da sq.dl sq.dc, .slice sq.oa sq.ol sq.oc]) ∧ (L 6 = true → T 58 = .slice (some ⟨X2.heap.size + 1 + 1, 0, none⟩) 2 2) ∧ (L 7 = true → T 59 = .agg #[.int .i64 1, .int .i64 0, .int .i64 0, .int .i64 0, .bool false]) ∧ (L 8 = true → T 60 = .tuple #[.string OUT, .int .i64 0]) ∧ (L 9 = true → T 51 = .tuple #[.string OUT, .int .i64 0]) ∧ (L 10 = true → T 61 = .string OUT) ∧ (L 11 = true → T 62 = .int .i64 0) ∧ (L 12 = true → T 18 = .string OUT) ∧ (L 13 = true → T 19 = .int .i64 0) ∧ (L 2 = true → (IsStore u sr ∧ Gd (SV.data sr) 961 ∧ SV.data sr = D0)) ∧ (L 4 = true → (IsStore u sq ∧ Gd (SV.data sq) 961 ∧ SV.data sq = D1)) ∧ (L 5 = true → (T 57 = .slice (some ⟨bA, 0, none⟩) 2 2 ∧ Y.heap.size ≤ bA ∧ bA < u.heap.size)) ∧ (L 5 = true → IsStores u (some ⟨bA, 0, none⟩) 2 2 [sr, sq])) (by decide) (by kernel_rfl) (by kernel_rfl) ?_ ?_ ?_
    · exact ⟨default, default, 0, (Below.refl _ _).drew, nofun, nofun, nofun, nofun, nofun, nofun, nofun, nofun, nofun, nofun, nofun, nofun, nofun, nofun, nofun, nofun, nofun⟩
    · refine ⟨?_, ?_, ?_, ?_, ?_, ?_, ?_, ?_, ?_, ?_, ?_, ?_, ?_, ?_, trivial⟩
      · rintro L T u hd hk hcl ⟨sr, sq, bA, hb, p0, p1, p2, p3, p4, p6, p7, p8, p9, p10, p11, p12, p13, fsr, fsq, pa5, bv5⟩ K hK
        simp only [fr, Act.put, List.setIfInBounds_toArray, List.set_cons_zero, List.set_cons_succ, updO] at hK ⊢
        simp [Region.binds] at hd
        obtain ⟨x0, x1, x2, y0, y1, y2, y3, y4, n0⟩ := HX.out u (hb)
        rw [if_pos (by rfl)]
        simp only [Oper.wpv]
        go_simp
        exact hK _ _ ⟨sr, sq, bA, hb, fun _ => rfl, p1, p2, p3, p4, p6, p7, p8, p9, p10, p11, p12, p13, fsr, fsq, pa5, bv5⟩
      · rintro L T u hd hk hcl ⟨sr, sq, bA, hb, p0, p1, p2, p3, p4, p6, p7, p8, p9, p10, p11, p12, p13, fsr, fsq, pa5, bv5⟩ K hK
        simp only [fr, Act.put, List.setIfInBounds_toArray, List.set_cons_zero, List.set_cons_succ, updO] at hK ⊢
        simp [Region.binds] at hd
        rw [if_pos (by rfl)]
        simp only [Oper.wpv]
        go_simp
        exact hK _ _ ⟨sr, sq, bA, hb, p0, fun _ => rfl, p2, p3, p4, p6, p7, p8, p9, p10, p11, p12, p13, fsr, fsq, pa5, bv5⟩
      · rintro L T u hd hk hcl ⟨sr, sq, bA, hb, p0, p1, p2, p3, p4, p6, p7, p8, p9, p10, p11, p12, p13, fsr, fsq, pa5, bv5⟩ K hK
        simp only [fr, Act.put, List.setIfInBounds_toArray, List.set_cons_zero, List.set_cons_succ, updO] at hK ⊢
        simp [Region.binds] at hd
        have g1 := p1 (by simp [hd])
        have k5 := hcl 5 _ rfl
        simp [Region.binds] at k5
        have k8 := hcl 8 _ rfl
        simp [Region.binds] at k8
        have k9 := hcl 9 _ rfl
        simp [Region.binds] at k9
        have k10 := hcl 10 _ rfl
        simp [Region.binds] at k10
        have k11 := hcl 11 _ rfl
        simp [Region.binds] at k11
        have k12 := hcl 12 _ rfl
        simp [Region.binds] at k12
        have k13 := hcl 13 _ rfl
        simp [Region.binds] at k13
        rw [if_pos (by rfl)]
        simp only [Oper.wpv]
        go_simp
        refine (KR0.out u (hb)).mono ?_
        rintro e u1 ⟨r9, rfl, hO, hGd, hMd, hg⟩
        exact hK _ _ ⟨r9, sq, bA, hT2 hb hg, p0, p1, fun _ => rfl, p3, p4, p6, p7, fun h => absurd (show L 8 = true from h) (by intro hh; have a8 := k8 hh; have a5 := k5 (by simp [a8]); simp [hk] at a5), fun h => absurd (show L 9 = true from h) (by intro hh; have a9 := k9 hh; have a8 := k8 (by simp [a9]); have a5 := k5 (by simp [a8]); simp [hk] at a5), fun h => absurd (show L 10 = true from h) (by intro hh; have a10 := k10 hh; have a9 := k9 (by simp [a10]); have a8 := k8 (by simp [a9]); have a5 := k5 (by simp [a8]); simp [hk] at a5), fun h => absurd (show L 11 = true from h) (by intro hh; have a11 := k11 hh; have a9 := k9 (by simp [a11]); have a8 := k8 (by simp [a9]); have a5 := k5 (by simp [a8]); simp [hk] at a5), fun h => absurd (show L 12 = true from h) (by intro hh; have a12 := k12 hh; have a10 := k10 (by simp [a12]); have a9 := k9 (by simp [a10]); have a8 := k8 (by simp [a9]); have a5 := k5 (by simp [a8]); simp [hk] at a5), fun h => absurd (show L 13 = true from h) (by intro hh; have a13 := k13 hh; have a11 := k11 (by simp [a13]); have a9 := k9 (by simp [a11]); have a8 := k8 (by simp [a9]); have a5 := k5 (by simp [a8]); simp [hk] at a5), fun _ => ⟨hO.isStore, hGd, hMd⟩, fun h0 => ⟨((fsq h0)).1.below hg, ((fsq h0)).2⟩, fun h => absurd (show L 5 = true from h) (by intro hh; have a5 := k5 hh; simp [hk] at a5), fun h => absurd (show L 5 = true from h) (by intro hh; have a5 := k5 hh; simp [hk] at a5)⟩
      · rintro L T u hd hk hcl ⟨sr, sq, bA, hb, p0, p1, p2, p3, p4, p6, p7, p8, p9, p10, p11, p12, p13, fsr, fsq, pa5, bv5⟩ K hK
        simp only [fr, Act.put, List.setIfInBounds_toArray, List.set_cons_zero, List.set_cons_succ, updO] at hK ⊢
        simp [Region.binds] at hd
        rw [if_pos (by rfl)]
        simp only [Oper.wpv]
        go_simp
        exact hK _ _ ⟨sr, sq, bA, hb, p0, p1, p2, fun _ => rfl, p4, p6, p7, p8, p9, p10, p11, p12, p13, fsr, fsq, pa5, bv5⟩
      · rintro L T u hd hk hcl ⟨sr, sq, bA, hb, p0, p1, p2, p3, p4, p6, p7, p8, p9, p10, p11, p12, p13, fsr, fsq, pa5, bv5⟩ K hK
        simp only [fr, Act.put, List.setIfInBounds_toArray, List.set_cons_zero, List.set_cons_succ, updO] at hK ⊢
        simp [Region.binds] at hd
        have g3 := p3 (by simp [hd])
        have k5 := hcl 5 _ rfl
        simp [Region.binds] at k5
        have k8 := hcl 8 _ rfl
        simp [Region.binds] at k8
        have k9 := hcl 9 _ rfl
        simp [Region.binds] at k9
        have k10 := hcl 10 _ rfl
        simp [Region.binds] at k10
        have k11 := hcl 11 _ rfl
        simp [Region.binds] at k11
        have k12 := hcl 12 _ rfl
        simp [Region.binds] at k12
        have k13 := hcl 13 _ rfl
        simp [Region.binds] at k13
        rw [if_pos (by rfl)]
        simp only [Oper.wpv]
        go_simp
        refine (KR1.out u (hb)).mono ?_
        rintro e u1 ⟨r9, rfl, hO, hGd, hMd, hg⟩
        exact hK _ _ ⟨sr, r9, bA, hT2 hb hg, p0, p1, p2, p3, fun _ => rfl, p6, p7, fun h => absurd (show L 8 = true from h) (by intro hh; have a8 := k8 hh; have a5 := k5 (by simp [a8]); simp [hk] at a5), fun h => absurd (show L 9 = true from h) (by intro hh; have a9 := k9 hh; have a8 := k8 (by simp [a9]); have a5 := k5 (by simp [a8]); simp [hk] at a5), fun h => absurd (show L 10 = true from h) (by intro hh; have a10 := k10 hh; have a9 := k9 (by simp [a10]); have a8 := k8 (by simp [a9]); have a5 := k5 (by simp [a8]); simp [hk] at a5), fun h => absurd (show L 11 = true from h) (by intro hh; have a11 := k11 hh; have a9 := k9 (by simp [a11]); have a8 := k8 (by simp [a9]); have a5 := k5 (by simp [a8]); simp [hk] at a5), fun h => absurd (show L 12 = true from h) (by intro hh; have a12 := k12 hh; have a10 := k10 (by simp [a12]); have a9 := k9 (by simp [a10]); have a8 := k8 (by simp [a9]); have a5 := k5 (by simp [a8]); simp [hk] at a5), fun h => absurd (show L 13 = true from h) (by intro hh; have a13 := k13 hh; have a11 := k11 (by simp [a13]); have a9 := k9 (by simp [a11]); have a8 := k8 (by simp [a9]); have a5 := k5 (by simp [a8]); simp [hk] at a5), fun h0 => ⟨((fsr h0)).1.below hg, ((fsr h0)).2⟩, fun _ => ⟨hO.isStore, hGd, hMd⟩, fun h => absurd (show L 5 = true from h) (by intro hh; have a5 := k5 hh; simp [hk] at a5), fun h => absurd (show L 5 = true from h) (by intro hh; have a5 := k5 hh; simp [hk] at a5)⟩
      · rintro L T u hd hk hcl ⟨sr, sq, bA, hb, p0, p1, p2, p3, p4, p6, p7, p8, p9, p10, p11, p12, p13, fsr, fsq, pa5, bv5⟩ K hK
        simp only [fr, Act.put, List.setIfInBounds_toArray, List.set_cons_zero, List.set_cons_succ, updO] at hK ⊢
        simp [Region.binds] at hd
        have g2 := p2 (by simp [hd])
        have g4 := p4 (by simp [hd])
        have k8 := hcl 8 _ rfl
        simp [Region.binds] at k8
        have k9 := hcl 9 _ rfl
        simp [Region.binds] at k9
        have k10 := hcl 10 _ rfl
        simp [Region.binds] at k10
        have k11 := hcl 11 _ rfl
        simp [Region.binds] at k11
        have k12 := hcl 12 _ rfl
        simp [Region.binds] at k12
        have k13 := hcl 13 _ rfl
        simp [Region.binds] at k13
        have hg : Below u.heap.size u (u.alloc (.cells #[.slice sr.ia sr.il sr.ic, .slice sr.la sr.ll sr.lc, .slice sr.da sr.dl sr.dc, .slice sr.oa sr.ol sr.oc, .slice sq.ia sq.il sq.ic, .slice sq.la sq.ll sq.lc, .slice sq.da sq.dl sq.dc, .slice sq.oa sq.ol sq.oc] 55)) := (Below.refl _ _).alloc (Nat.le_refl _) _
        rw [if_pos (by rfl)]
        simp only [Oper.wpv]
        go_simp
        exact hK _ _ ⟨sr, sq, u.heap.size, (hT2 hb hg), p0, p1, p2, p3, p4, p6, p7, fun h => absurd (show L 8 = true from h) (by intro hh; have a8 := k8 hh; simp [hk] at a8), fun h => absurd (show L 9 = true from h) (by intro hh; have a9 := k9 hh; have a8 := k8 (by simp [a9]); simp [hk] at a8), fun h => absurd (show L 10 = true from h) (by intro hh; have a10 := k10 hh; have a9 := k9 (by simp [a10]); have a8 := k8 (by simp [a9]); simp [hk] at a8), fun h => absurd (show L 11 = true from h) (by intro hh; have a11 := k11 hh; have a9 := k9 (by simp [a11]); have a8 := k8 (by simp [a9]); simp [hk] at a8), fun h => absurd (show L 12 = true from h) (by intro hh; have a12 := k12 hh; have a10 := k10 (by simp [a12]); have a9 := k9 (by simp [a10]); have a8 := k8 (by simp [a9]); simp [hk] at a8), fun h => absurd (show L 13 = true from h) (by intro hh; have a13 := k13 hh; have a11 := k11 (by simp [a13]); have a9 := k9 (by simp [a11]); have a8 := k8 (by simp [a9]); simp [hk] at a8), fun h0 => ⟨((fsr h0)).1.below hg, ((fsr h0)).2⟩, fun h0 => ⟨((fsq h0)).1.below hg, ((fsq h0)).2⟩, fun _ => ⟨rfl, hb.size, by simp⟩, fun _ => two_of (r := sr) (q := sq) (fsr (by simp [hd])).1 (fsr (by simp [hd])).2.1.wf (fsq (by simp [hd])).1 (fsq (by simp [hd])).2.1.wf⟩
      · rintro L T u hd hk hcl ⟨sr, sq, bA, hb, p0, p1, p2, p3, p4, p6, p7, p8, p9, p10, p11, p12, p13, fsr, fsq, pa5, bv5⟩ K hK
        simp only [fr, Act.put, List.setIfInBounds_toArray, List.set_cons_zero, List.set_cons_succ, updO] at hK ⊢
        simp [Region.binds] at hd
        rw [if_pos (by rfl)]
        simp only [Oper.wpv]
        go_simp
        exact hK _ _ ⟨sr, sq, bA, hb, p0, p1, p2, p3, p4, fun _ => rfl, p7, p8, p9, p10, p11, p12, p13, fsr, fsq, pa5, bv5⟩
      · rintro L T u hd hk hcl ⟨sr, sq, bA, hb, p0, p1, p2, p3, p4, p6, p7, p8, p9, p10, p11, p12, p13, fsr, fsq, pa5, bv5⟩ K hK
        simp only [fr, Act.put, List.setIfInBounds_toArray, List.set_cons_zero, List.set_cons_succ, updO] at hK ⊢
        simp [Region.binds] at hd
        obtain ⟨x0, x1, x2, y0, y1, y2, y3, y4, n0⟩ := HX.out u (hb)
        rw [if_pos (by rfl)]
        simp only [Oper.wpv]
        go_simp
        exact hK _ _ ⟨sr, sq, bA, hb, p0, p1, p2, p3, p4, p6, fun _ => rfl, p8, p9, p10, p11, p12, p13, fsr, fsq, pa5, bv5⟩
      · rintro L T u hd hk hcl ⟨sr, sq, bA, hb, p0, p1, p2, p3, p4, p6, p7, p8, p9, p10, p11, p12, p13, fsr, fsq, pa5, bv5⟩ K hK
        simp only [fr, Act.put, List.setIfInBounds_toArray, List.set_cons_zero, List.set_cons_succ, updO] at hK ⊢
        simp [Region.binds] at hd
        have g0 := p0 (by simp [hd])
        have g5 := pa5 (by simp [hd])
        have g6 := p6 (by simp [hd])
        have g7 := p7 (by simp [hd])
        have kk0 := hcl 5 _ rfl
        simp [Region.binds] at kk0
        have kk := kk0 (by simp [hd])
        rw [if_pos (by rfl)]
        simp only [Oper.wpv]
        go_simp
        refine (HSa.out sr sq bA u (hb) (bv5 (by simp [hd])) (fsr (by simp [kk])).2.1.ok.ok (fsq (by simp [kk])).2.1.ok.ok (fsr (by simp [kk])).2.2 (fsq (by simp [kk])).2.2).mono ?_
        rintro e u1 ⟨rfl, hg⟩
        exact hK _ _ ⟨sr, sq, bA, hT2 hb hg, p0, p1, p2, p3, p4, p6, p7, fun _ => rfl, p9, p10, p11, p12, p13, fun h0 => ⟨((fsr h0)).1.below hg, ((fsr h0)).2⟩, fun h0 => ⟨((fsq h0)).1.below hg, ((fsq h0)).2⟩, fun h0 => ⟨(pa5 h0).1, (pa5 h0).2.1, Nat.lt_of_lt_of_le (pa5 h0).2.2 hg.size⟩, fun h0 => (bv5 h0).below hg⟩
      · rintro L T u hd hk hcl ⟨sr, sq, bA, hb, p0, p1, p2, p3, p4, p6, p7, p8, p9, p10, p11, p12, p13, fsr, fsq, pa5, bv5⟩ K hK
        simp only [fr, Act.put, List.setIfInBounds_toArray, List.set_cons_zero, List.set_cons_succ, updO] at hK ⊢
        simp [Region.binds] at hd
        have g8 := p8 (by simp [hd])
        rw [if_pos (by rfl)]
        simp only [Oper.wpv]
        go_simp
        exact hK _ _ ⟨sr, sq, bA, hb, p0, p1, p2, p3, p4, p6, p7, p8, fun _ => rfl, p10, p11, p12, p13, fsr, fsq, pa5, bv5⟩
      · rintro L T u hd hk hcl ⟨sr, sq, bA, hb, p0, p1, p2, p3, p4, p6, p7, p8, p9, p10, p11, p12, p13, fsr, fsq, pa5, bv5⟩ K hK
        simp only [fr, Act.put, List.setIfInBounds_toArray, List.set_cons_zero, List.set_cons_succ, updO] at hK ⊢
        simp [Region.binds] at hd
        have g9 := p9 (by simp [hd])
        rw [if_pos (by rfl)]
        simp only [Oper.wpv]
        go_simp
        exact hK _ _ ⟨sr, sq, bA, hb, p0, p1, p2, p3, p4, p6, p7, p8, p9, fun _ => rfl, p11, p12, p13, fsr, fsq, pa5, bv5⟩
      · rintro L T u hd hk hcl ⟨sr, sq, bA, hb, p0, p1, p2, p3, p4, p6, p7, p8, p9, p10, p11, p12, p13, fsr, fsq, pa5, bv5⟩ K hK
        simp only [fr, Act.put, List.setIfInBounds_toArray, List.set_cons_zero, List.set_cons_succ, updO] at hK ⊢
        simp [Region.binds] at hd
        have g9 := p9 (by simp [hd])
        rw [if_pos (by rfl)]
        simp only [Oper.wpv]
        go_simp
        exact hK _ _ ⟨sr, sq, bA, hb, p0, p1, p2, p3, p4, p6, p7, p8, p9, p10, fun _ => rfl, p12, p13, fsr, fsq, pa5, bv5⟩
      · rintro L T u hd hk hcl ⟨sr, sq, bA, hb, p0, p1, p2, p3, p4, p6, p7, p8, p9, p10, p11, p12, p13, fsr, fsq, pa5, bv5⟩ K hK
        simp only [fr, Act.put, List.setIfInBounds_toArray, List.set_cons_zero, List.set_cons_succ, updO] at hK ⊢
        simp [Region.binds] at hd
        have g10 := p10 (by simp [hd])
        rw [if_pos (by rfl)]
        simp only [Oper.wpv]
        go_simp
        exact hK _ _ ⟨sr, sq, bA, hb, p0, p1, p2, p3, p4, p6, p7, p8, p9, p10, p11, fun _ => rfl, p13, fsr, fsq, pa5, bv5⟩
      · rintro L T u hd hk hcl ⟨sr, sq, bA, hb, p0, p1, p2, p3, p4, p6, p7, p8, p9, p10, p11, p12, p13, fsr, fsq, pa5, bv5⟩ K hK
        simp only [fr, Act.put, List.setIfInBounds_toArray, List.set_cons_zero, List.set_cons_succ, updO] at hK ⊢
        simp [Region.binds] at hd
        have g11 := p11 (by simp [hd])
        rw [if_pos (by rfl)]
        simp only [Oper.wpv]
        go_simp
        exact hK _ _ ⟨sr, sq, bA, hb, p0, p1, p2, p3, p4, p6, p7, p8, p9, p10, p11, p12, fun _ => rfl, fsr, fsq, pa5, bv5⟩
    · rintro L T u hl ⟨sr, sq, bA, hb, p0, p1, p2, p3, p4, p6, p7, p8, p9, p10, p11, p12, p13, fsr, fsq, pa5, bv5⟩
      simp only [fr, Act.put, List.setIfInBounds_toArray, List.set_cons_zero, List.set_cons_succ]
      have h5 := p12 (hl 12 (by decide))
      have h6 := p13 (hl 13 (by decide))
      have hu1 : Below Y.heap.size Y u := hb
      clear p0 p1 p2 p3 p4 p6 p7 p8 p9 p10 p11 p12 p13 fsr fsq pa5 bv5 HSa hb
      rw [h5, h6]
      clear h5 h6
      obtain ⟨U1, eU1⟩ : ∃ X : World, X = u := ⟨_, rfl⟩
      subst eU1
      go_upto_region 8 with (fail)
      refine wp_region_inv (by kernel_rfl) [64, 65, 66, 67, 68, 69, 70, 71, 72, 73, 74, 75, 63, 76, 77, 20, 21] (fun L T u => ∃ (sr : SV) (sq : SV) (bA : Nat) (bN : Nat), Below U1.heap.size U1 u ∧ (L 0 = true → T 64 = .agg #[.int .i64 1, .slice (some ⟨g0, 0, none⟩) 2 2, .int .i64 3]) ∧ (L 1 = true → T 65 = .slice a len cap) ∧ (L 2 = true → T 66 = .agg #[.slice sr.ia sr.il sr.ic, .slice sr.la sr.ll sr.lc, .slice sr.da sr.dl sr.dc, .slice sr.oa sr.ol sr.oc]) ∧ (L 3 = true → T 67 = .slice a2 len2 cap2) ∧ (L 4 = true → T 68 = .agg #[.slice sq.ia sq.il sq.ic, .slice sq.la sq.ll sq.lc, .slice sq.da sq.dl sq.dc, .slice sq.oa sq.ol sq.oc]) ∧ (L 6 = true → T 70 = .slice (some ⟨X2.heap.size + 1 + 1, 0, none⟩) 2 2) ∧ (L 7 = true → T 71 = .pointer (some ⟨X2.heap.size + 1 + 1, 0, none⟩)) ∧ (L 8 = true → T 72 = .slice (some ⟨X2.heap.size, 0, none⟩) 1 1) ∧ (L 10 = true → T 74 = .agg #[.int .i64 1, .int .i64 0, .int .i64 0, .int .i64 0, .bool false]) ∧ (L 11 = true → T 75 = .tuple #[.string OUT, .int .i64 0]) ∧ (L 12 = true → T 63 = .tuple #[.string OUT, .int .i64 0]) ∧ (L 13 = true → T 76 = .string OUT) ∧ (L 14 = true → T 77 = .int .i64 0) ∧ (L 15 = true → T 20 = .string OUT) ∧ (L 16 = true → T 21 = .int .i64 0) ∧ (L 2 = true → (IsStore u sr ∧ Gd (SV.data sr) 961 ∧ SV.data sr = D0)) ∧ (L 4 = true → (IsStore u sq ∧ Gd (SV.data sq) 961 ∧ SV.data sq = D2)) ∧ (L 5 = true → (T 69 = .slice (some ⟨bA, 0, none⟩) 2 2 ∧ U1.heap.size ≤ bA ∧ bA < u.heap.size)) ∧ (L 5 = true → IsStores u (some ⟨bA, 0, none⟩) 2 2 [sr, sq]) ∧ (L 9 = true → (T 73 = .slice (some ⟨bN, 0, none⟩) 2 2 ∧ U1.heap.size ≤ bN ∧ bN < u.heap.size)) ∧ (L 9 = true → BoxN u bN 2 [.slice (some ⟨X2.heap.size, 0, none⟩) 1 1, .slice none 0 0])) (by decide) (by kernel_rfl) (by kernel_rfl) ?_ ?_ ?_
      · exact ⟨default, default, 0, 0, (Below.refl _ _).drew, nofun, nofun, nofun, nofun, nofun, nofun, nofun, nofun, nofun, nofun, nofun, nofun, nofun, nofun, nofun, nofun, nofun, nofun, nofun, nofun, nofun⟩
      · refine ⟨?_, ?_, ?_, ?_, ?_, ?_, ?_, ?_, ?_, ?_, ?_, ?_, ?_, ?_, ?_, ?_, ?_, trivial⟩
        · rintro L T u hd hk hcl ⟨sr, sq, bA, bN, hb, p0, p1, p2, p3, p4, p6, p7, p8, p10, p11, p12, p13, p14, p15, p16, fsr, fsq, pa5, bv5, pa9, bv9⟩ K hK
          simp only [fr, Act.put, List.setIfInBounds_toArray, List.set_cons_zero, List.set_cons_succ, updO] at hK ⊢
          simp [Region.binds] at hd
          obtain ⟨x0, x1, x2, y0, y1, y2, y3, y4, n0⟩ := HX.out u (hT2 hu1 hb)
          rw [if_pos (by rfl)]
          simp only [Oper.wpv]
          go_simp
          exact hK _ _ ⟨sr, sq, bA, bN, hb, fun _ => rfl, p1, p2, p3, p4, p6, p7, p8, p10, p11, p12, p13, p14, p15, p16, fsr, fsq, pa5, bv5, pa9, bv9⟩
        · rintro L T u hd hk hcl ⟨sr, sq, bA, bN, hb, p0, p1, p2, p3, p4, p6, p7, p8, p10, p11, p12, p13, p14, p15, p16, fsr, fsq, pa5, bv5, pa9, bv9⟩ K hK
          simp only [fr, Act.put, List.setIfInBounds_toArray, List.set_cons_zero, List.set_cons_succ, updO] at hK ⊢
          simp [Region.binds] at hd
          rw [if_pos (by rfl)]
          simp only [Oper.wpv]
          go_simp
          exact hK _ _ ⟨sr, sq, bA, bN, hb, p0, fun _ => rfl, p2, p3, p4, p6, p7, p8, p10, p11, p12, p13, p14, p15, p16, fsr, fsq, pa5, bv5, pa9, bv9⟩
        · rintro L T u hd hk hcl ⟨sr, sq, bA, bN, hb, p0, p1, p2, p3, p4, p6, p7, p8, p10, p11, p12, p13, p14, p15, p16, fsr, fsq, pa5, bv5, pa9, bv9⟩ K hK
          simp only [fr, Act.put, List.setIfInBounds_toArray, List.set_cons_zero, List.set_cons_succ, updO] at hK ⊢
          simp [Region.binds] at hd
          have g1 := p1 (by simp [hd])
          have k5 := hcl 5 _ rfl
          simp [Region.binds] at k5
          have k11 := hcl 11 _ rfl
          simp [Region.binds] at k11
          have k12 := hcl 12 _ rfl
          simp [Region.binds] at k12
          have k13 := hcl 13 _ rfl
          simp [Region.binds] at k13
          have k14 := hcl 14 _ rfl
          simp [Region.binds] at k14
          have k15 := hcl 15 _ rfl
          simp [Region.binds] at k15
          have k16 := hcl 16 _ rfl
          simp [Region.binds] at k16
          rw [if_pos (by rfl)]
          simp only [Oper.wpv]
          go_simp
          refine (KR0.out u (hT2 hu1 hb)).mono ?_
          rintro e u1 ⟨r9, rfl, hO, hGd, hMd, hg⟩
          exact hK _ _ ⟨r9, sq, bA, bN, hT2 hb hg, p0, p1, fun _ => rfl, p3, p4, p6, p7, p8, p10, fun h => absurd (show L 11 = true from h) (by intro hh; have a11 := k11 hh; have a5 := k5 (by simp [a11]); simp [hk] at a5), fun h => absurd (show L 12 = true from h) (by intro hh; have a12 := k12 hh; have a11 := k11 (by simp [a12]); have a5 := k5 (by simp [a11]); simp [hk] at a5), fun h => absurd (show L 13 = true from h) (by intro hh; have a13 := k13 hh; have a12 := k12 (by simp [a13]); have a11 := k11 (by simp [a12]); have a5 := k5 (by simp [a11]); simp [hk] at a5), fun h => absurd (show L 14 = true from h) (by intro hh; have a14 := k14 hh; have a12 := k12 (by simp [a14]); have a11 := k11 (by simp [a12]); have a5 := k5 (by simp [a11]); simp [hk] at a5), fun h => absurd (show L 15 = true from h) (by intro hh; have a15 := k15 hh; have a13 := k13 (by simp [a15]); have a12 := k12 (by simp [a13]); have a11 := k11 (by simp [a12]); have a5 := k5 (by simp [a11]); simp [hk] at a5), fun h => absurd (show L 16 = true from h) (by intro hh; have a16 := k16 hh; have a14 := k14 (by simp [a16]); have a12 := k12 (by simp [a14]); have a11 := k11 (by simp [a12]); have a5 := k5 (by simp [a11]); simp [hk] at a5), fun _ => ⟨hO.isStore, hGd, hMd⟩, fun h0 => ⟨((fsq h0)).1.below hg, ((fsq h0)).2⟩, fun h => absurd (show L 5 = true from h) (by intro hh; have a5 := k5 hh; simp [hk] at a5), fun h => absurd (show L 5 = true from h) (by intro hh; have a5 := k5 hh; simp [hk] at a5), fun h0 => ⟨(pa9 h0).1, (pa9 h0).2.1, Nat.lt_of_lt_of_le (pa9 h0).2.2 hg.size⟩, fun h0 => (bv9 h0).below hg (bv9 h0).lt⟩
        · rintro L T u hd hk hcl ⟨sr, sq, bA, bN, hb, p0, p1, p2, p3, p4, p6, p7, p8, p10, p11, p12, p13, p14, p15, p16, fsr, fsq, pa5, bv5, pa9, bv9⟩ K hK
          simp only [fr, Act.put, List.setIfInBounds_toArray, List.set_cons_zero, List.set_cons_succ, updO] at hK ⊢
          simp [Region.binds] at hd
          rw [if_pos (by rfl)]
          simp only [Oper.wpv]
          go_simp
          exact hK _ _ ⟨sr, sq, bA, bN, hb, p0, p1, p2, fun _ => rfl, p4, p6, p7, p8, p10, p11, p12, p13, p14, p15, p16, fsr, fsq, pa5, bv5, pa9, bv9⟩
        · rintro L T u hd hk hcl ⟨sr, sq, bA, bN, hb, p0, p1, p2, p3, p4, p6, p7, p8, p10, p11, p12, p13, p14, p15, p16, fsr, fsq, pa5, bv5, pa9, bv9⟩ K hK
          simp only [fr, Act.put, List.setIfInBounds_toArray, List.set_cons_zero, List.set_cons_succ, updO] at hK ⊢
          simp [Region.binds] at hd
          have g3 := p3 (by simp [hd])
          have k5 := hcl 5 _ rfl
          simp [Region.binds] at k5
          have k11 := hcl 11 _ rfl
          simp [Region.binds] at k11
          have k12 := hcl 12 _ rfl
          simp [Region.binds] at k12
          have k13 := hcl 13 _ rfl
          simp [Region.binds] at k13
          have k14 := hcl 14 _ rfl
          simp [Region.binds] at k14
          have k15 := hcl 15 _ rfl
          simp [Region.binds] at k15
          have k16 := hcl 16 _ rfl
          simp [Region.binds] at k16
          rw [if_pos (by rfl)]
          simp only [Oper.wpv]
          go_simp
          refine (KR2.out u (hT2 hu1 hb)).mono ?_
          rintro e u1 ⟨r9, rfl, hO, hGd, hMd, hg⟩
          exact hK _ _ ⟨sr, r9, bA, bN, hT2 hb hg, p0, p1, p2, p3, fun _ => rfl, p6, p7, p8, p10, fun h => absurd (show L 11 = true from h) (by intro hh; have a11 := k11 hh; have a5 := k5 (by simp [a11]); simp [hk] at a5), fun h => absurd (show L 12 = true from h) (by intro hh; have a12 := k12 hh; have a11 := k11 (by simp [a12]); have a5 := k5 (by simp [a11]); simp [hk] at a5), fun h => absurd (show L 13 = true from h) (by intro hh; have a13 := k13 hh; have a12 := k12 (by simp [a13]); have a11 := k11 (by simp [a12]); have a5 := k5 (by simp [a11]); simp [hk] at a5), fun h => absurd (show L 14 = true from h) (by intro hh; have a14 := k14 hh; have a12 := k12 (by simp [a14]); have a11 := k11 (by simp [a12]); have a5 := k5 (by simp [a11]); simp [hk] at a5), fun h => absurd (show L 15 = true from h) (by intro hh; have a15 := k15 hh; have a13 := k13 (by simp [a15]); have a12 := k12 (by simp [a13]); have a11 := k11 (by simp [a12]); have a5 := k5 (by simp [a11]); simp [hk] at a5), fun h => absurd (show L 16 = true from h) (by intro hh; have a16 := k16 hh; have a14 := k14 (by simp [a16]); have a12 := k12 (by simp [a14]); have a11 := k11 (by simp [a12]); have a5 := k5 (by simp [a11]); simp [hk] at a5), fun h0 => ⟨((fsr h0)).1.below hg, ((fsr h0)).2⟩, fun _ => ⟨hO.isStore, hGd, hMd⟩, fun h => absurd (show L 5 = true from h) (by intro hh; have a5 := k5 hh; simp [hk] at a5), fun h => absurd (show L 5 = true from h) (by intro hh; have a5 := k5 hh; simp [hk] at a5), fun h0 => ⟨(pa9 h0).1, (pa9 h0).2.1, Nat.lt_of_lt_of_le (pa9 h0).2.2 hg.size⟩, fun h0 => (bv9 h0).below hg (bv9 h0).lt⟩
        · rintro L T u hd hk hcl ⟨sr, sq, bA, bN, hb, p0, p1, p2, p3, p4, p6, p7, p8, p10, p11, p12, p13, p14, p15, p16, fsr, fsq, pa5, bv5, pa9, bv9⟩ K hK
          simp only [fr, Act.put, List.setIfInBounds_toArray, List.set_cons_zero, List.set_cons_succ, updO] at hK ⊢
          simp [Region.binds] at hd
          have g2 := p2 (by simp [hd])
          have g4 := p4 (by simp [hd])
          have k11 := hcl 11 _ rfl
          simp [Region.binds] at k11
          have k12 := hcl 12 _ rfl
          simp [Region.binds] at k12
          have k13 := hcl 13 _ rfl
          simp [Region.binds] at k13
          have k14 := hcl 14 _ rfl
          simp [Region.binds] at k14
          have k15 := hcl 15 _ rfl
          simp [Region.binds] at k15
          have k16 := hcl 16 _ rfl
          simp [Region.binds] at k16
          have hg : Below u.heap.size u (u.alloc (.cells #[.slice sr.ia sr.il sr.ic, .slice sr.la sr.ll sr.lc, .slice sr.da sr.dl sr.dc, .slice sr.oa sr.ol sr.oc, .slice sq.ia sq.il sq.ic, .slice sq.la sq.ll sq.lc, .slice sq.da sq.dl sq.dc, .slice sq.oa sq.ol sq.oc] 55)) := (Below.refl _ _).alloc (Nat.le_refl _) _
          rw [if_pos (by rfl)]
          simp only [Oper.wpv]
          go_simp
          exact hK _ _ ⟨sr, sq, u.heap.size, bN, (hT2 hb hg), p0, p1, p2, p3, p4, p6, p7, p8, p10, fun h => absurd (show L 11 = true from h) (by intro hh; have a11 := k11 hh; simp [hk] at a11), fun h => absurd (show L 12 = true from h) (by intro hh; have a12 := k12 hh; have a11 := k11 (by simp [a12]); simp [hk] at a11), fun h => absurd (show L 13 = true from h) (by intro hh; have a13 := k13 hh; have a12 := k12 (by simp [a13]); have a11 := k11 (by simp [a12]); simp [hk] at a11), fun h => absurd (show L 14 = true from h) (by intro hh; have a14 := k14 hh; have a12 := k12 (by simp [a14]); have a11 := k11 (by simp [a12]); simp [hk] at a11), fun h => absurd (show L 15 = true from h) (by intro hh; have a15 := k15 hh; have a13 := k13 (by simp [a15]); have a12 := k12 (by simp [a13]); have a11 := k11 (by simp [a12]); simp [hk] at a11), fun h => absurd (show L 16 = true from h) (by intro hh; have a16 := k16 hh; have a14 := k14 (by simp [a16]); have a12 := k12 (by simp [a14]); have a11 := k11 (by simp [a12]); simp [hk] at a11), fun h0 => ⟨((fsr h0)).1.below hg, ((fsr h0)).2⟩, fun h0 => ⟨((fsq h0)).1.below hg, ((fsq h0)).2⟩, fun _ => ⟨rfl, hb.size, by simp⟩, fun _ => two_of (r := sr) (q := sq) (fsr (by simp [hd])).1 (fsr (by simp [hd])).2.1.wf (fsq (by simp [hd])).1 (fsq (by simp [hd])).2.1.wf, fun h0 => ⟨(pa9 h0).1, (pa9 h0).2.1, Nat.lt_of_lt_of_le (pa9 h0).2.2 hg.size⟩, fun h0 => (bv9 h0).below hg (bv9 h0).lt⟩
        · rintro L T u hd hk hcl ⟨sr, sq, bA, bN, hb, p0, p1, p2, p3, p4, p6, p7, p8, p10, p11, p12, p13, p14, p15, p16, fsr, fsq, pa5, bv5, pa9, bv9⟩ K hK
          simp only [fr, Act.put, List.setIfInBounds_toArray, List.set_cons_zero, List.set_cons_succ, updO] at hK ⊢
          simp [Region.binds] at hd
          rw [if_pos (by rfl)]
          simp only [Oper.wpv]
          go_simp
          exact hK _ _ ⟨sr, sq, bA, bN, hb, p0, p1, p2, p3, p4, fun _ => rfl, p7, p8, p10, p11, p12, p13, p14, p15, p16, fsr, fsq, pa5, bv5, pa9, bv9⟩
        · rintro L T u hd hk hcl ⟨sr, sq, bA, bN, hb, p0, p1, p2, p3, p4, p6, p7, p8, p10, p11, p12, p13, p14, p15, p16, fsr, fsq, pa5, bv5, pa9, bv9⟩ K hK
          simp only [fr, Act.put, List.setIfInBounds_toArray, List.set_cons_zero, List.set_cons_succ, updO] at hK ⊢
          simp [Region.binds] at hd
          have g6 := p6 (by simp [hd])
          rw [if_pos (by rfl)]
          simp only [Oper.wpv]
          go_simp
          exact hK _ _ ⟨sr, sq, bA, bN, hb, p0, p1, p2, p3, p4, p6, fun _ => rfl, p8, p10, p11, p12, p13, p14, p15, p16, fsr, fsq, pa5, bv5, pa9, bv9⟩
        · rintro L T u hd hk hcl ⟨sr, sq, bA, bN, hb, p0, p1, p2, p3, p4, p6, p7, p8, p10, p11, p12, p13, p14, p15, p16, fsr, fsq, pa5, bv5, pa9, bv9⟩ K hK
          simp only [fr, Act.put, List.setIfInBounds_toArray, List.set_cons_zero, List.set_cons_succ, updO] at hK ⊢
          simp [Region.binds] at hd
          have g7 := p7 (by simp [hd])
          obtain ⟨x0, x1, x2, y0, y1, y2, y3, y4, n0⟩ := HX.out u (hT2 hu1 hb)
          rw [if_pos (by rfl)]
          simp only [Oper.wpv]
          go_simp
          exact hK _ _ ⟨sr, sq, bA, bN, hb, p0, p1, p2, p3, p4, p6, p7, fun _ => rfl, p10, p11, p12, p13, p14, p15, p16, fsr, fsq, pa5, bv5, pa9, bv9⟩
        · rintro L T u hd hk hcl ⟨sr, sq, bA, bN, hb, p0, p1, p2, p3, p4, p6, p7, p8, p10, p11, p12, p13, p14, p15, p16, fsr, fsq, pa5, bv5, pa9, bv9⟩ K hK
          simp only [fr, Act.put, List.setIfInBounds_toArray, List.set_cons_zero, List.set_cons_succ, updO] at hK ⊢
          simp [Region.binds] at hd
          have g8 := p8 (by simp [hd])
          have k11 := hcl 11 _ rfl
          simp [Region.binds] at k11
          have k12 := hcl 12 _ rfl
          simp [Region.binds] at k12
          have k13 := hcl 13 _ rfl
          simp [Region.binds] at k13
          have k14 := hcl 14 _ rfl
          simp [Region.binds] at k14
          have k15 := hcl 15 _ rfl
          simp [Region.binds] at k15
          have k16 := hcl 16 _ rfl
          simp [Region.binds] at k16
          have hg : Below u.heap.size u (u.alloc (.cells #[.slice (some ⟨X2.heap.size, 0, none⟩) 1 1, .slice none 0 0] 49)) := (Below.refl _ _).alloc (Nat.le_refl _) _
          rw [if_pos (by rfl)]
          simp only [Oper.wpv]
          go_simp
          exact hK _ _ ⟨sr, sq, bA, u.heap.size, (hT2 hb hg), p0, p1, p2, p3, p4, p6, p7, p8, p10, fun h => absurd (show L 11 = true from h) (by intro hh; have a11 := k11 hh; simp [hk] at a11), fun h => absurd (show L 12 = true from h) (by intro hh; have a12 := k12 hh; have a11 := k11 (by simp [a12]); simp [hk] at a11), fun h => absurd (show L 13 = true from h) (by intro hh; have a13 := k13 hh; have a12 := k12 (by simp [a13]); have a11 := k11 (by simp [a12]); simp [hk] at a11), fun h => absurd (show L 14 = true from h) (by intro hh; have a14 := k14 hh; have a12 := k12 (by simp [a14]); have a11 := k11 (by simp [a12]); simp [hk] at a11), fun h => absurd (show L 15 = true from h) (by intro hh; have a15 := k15 hh; have a13 := k13 (by simp [a15]); have a12 := k12 (by simp [a13]); have a11 := k11 (by simp [a12]); simp [hk] at a11), fun h => absurd (show L 16 = true from h) (by intro hh; have a16 := k16 hh; have a14 := k14 (by simp [a16]); have a12 := k12 (by simp [a14]); have a11 := k11 (by simp [a12]); simp [hk] at a11), fun h0 => ⟨((fsr h0)).1.below hg, ((fsr h0)).2⟩, fun h0 => ⟨((fsq h0)).1.below hg, ((fsq h0)).2⟩, fun h0 => ⟨(pa5 h0).1, (pa5 h0).2.1, Nat.lt_of_lt_of_le (pa5 h0).2.2 hg.size⟩, fun h0 => (bv5 h0).below hg, fun _ => ⟨rfl, hb.size, by simp⟩, fun _ => boxn_new u #[.slice (some ⟨X2.heap.size, 0, none⟩) 1 1, .slice none 0 0] 49 2 rfl⟩
        · rintro L T u hd hk hcl ⟨sr, sq, bA, bN, hb, p0, p1, p2, p3, p4, p6, p7, p8, p10, p11, p12, p13, p14, p15, p16, fsr, fsq, pa5, bv5, pa9, bv9⟩ K hK
          simp only [fr, Act.put, List.setIfInBounds_toArray, List.set_cons_zero, List.set_cons_succ, updO] at hK ⊢
          simp [Region.binds] at hd
          obtain ⟨x0, x1, x2, y0, y1, y2, y3, y4, n0⟩ := HX.out u (hT2 hu1 hb)
          rw [if_pos (by rfl)]
          simp only [Oper.wpv]
          go_simp
          exact hK _ _ ⟨sr, sq, bA, bN, hb, p0, p1, p2, p3, p4, p6, p7, p8, fun _ => rfl, p11, p12, p13, p14, p15, p16, fsr, fsq, pa5, bv5, pa9, bv9⟩
        · rintro L T u hd hk hcl ⟨sr, sq, bA, bN, hb, p0, p1, p2, p3, p4, p6, p7, p8, p10, p11, p12, p13, p14, p15, p16, fsr, fsq, pa5, bv5, pa9, bv9⟩ K hK
          simp only [fr, Act.put, List.setIfInBounds_toArray, List.set_cons_zero, List.set_cons_succ, updO] at hK ⊢
          simp [Region.binds] at hd
          have g0 := p0 (by simp [hd])
          have g5 := pa5 (by simp [hd])
          have g9 := pa9 (by simp [hd])
          have g10 := p10 (by simp [hd])
          have kk0 := hcl 5 _ rfl
          simp [Region.binds] at kk0
          have kk := kk0 (by simp [hd])
          rw [if_pos (by rfl)]
          simp only [Oper.wpv]
          go_simp
          refine (HSb.out sr sq bA bN u (hT2 hu1 hb) (bv5 (by simp [hd])) (bv9 (by simp [hd])) (fsr (by simp [kk])).2.1.ok.ok (fsq (by simp [kk])).2.1.ok.ok (fsr (by simp [kk])).2.2 (fsq (by simp [kk])).2.2).mono ?_
          rintro e u1 ⟨rfl, hg⟩
          exact hK _ _ ⟨sr, sq, bA, bN, hT2 hb hg, p0, p1, p2, p3, p4, p6, p7, p8, p10, fun _ => rfl, p12, p13, p14, p15, p16, fun h0 => ⟨((fsr h0)).1.below hg, ((fsr h0)).2⟩, fun h0 => ⟨((fsq h0)).1.below hg, ((fsq h0)).2⟩, fun h0 => ⟨(pa5 h0).1, (pa5 h0).2.1, Nat.lt_of_lt_of_le (pa5 h0).2.2 hg.size⟩, fun h0 => (bv5 h0).below hg, fun h0 => ⟨(pa9 h0).1, (pa9 h0).2.1, Nat.lt_of_lt_of_le (pa9 h0).2.2 hg.size⟩, fun h0 => (bv9 h0).below hg (bv9 h0).lt⟩
        · rintro L T u hd hk hcl ⟨sr, sq, bA, bN, hb, p0, p1, p2, p3, p4, p6, p7, p8, p10, p11, p12, p13, p14, p15, p16, fsr, fsq, pa5, bv5, pa9, bv9⟩ K hK
          simp only [fr, Act.put, List.setIfInBounds_toArray, List.set_cons_zero, List.set_cons_succ, updO] at hK ⊢
          simp [Region.binds] at hd
          have g11 := p11 (by simp [hd])
          rw [if_pos (by rfl)]
          simp only [Oper.wpv]
          go_simp
          exact hK _ _ ⟨sr, sq, bA, bN, hb, p0, p1, p2, p3, p4, p6, p7, p8, p10, p11, fun _ => rfl, p13, p14, p15, p16, fsr, fsq, pa5, bv5, pa9, bv9⟩
        · rintro L T u hd hk hcl ⟨sr, sq, bA, bN, hb, p0, p1, p2, p3, p4, p6, p7, p8, p10, p11, p12, p13, p14, p15, p16, fsr, fsq, pa5, bv5, pa9, bv9⟩ K hK
          simp only [fr, Act.put, List.setIfInBounds_toArray, List.set_cons_zero, List.set_cons_succ, updO] at hK ⊢
          simp [Region.binds] at hd
          have g12 := p12 (by simp [hd])
          rw [if_pos (by rfl)]
          simp only [Oper.wpv]
          go_simp
          exact hK _ _ ⟨sr, sq, bA, bN, hb, p0, p1, p2, p3, p4, p6, p7, p8, p10, p11, p12, fun _ => rfl, p14, p15, p16, fsr, fsq, pa5, bv5, pa9, bv9⟩
        · rintro L T u hd hk hcl ⟨sr, sq, bA, bN, hb, p0, p1, p2, p3, p4, p6, p7, p8, p10, p11, p12, p13, p14, p15, p16, fsr, fsq, pa5, bv5, pa9, bv9⟩ K hK
          simp only [fr, Act.put, List.setIfInBounds_toArray, List.set_cons_zero, List.set_cons_succ, updO] at hK ⊢
          simp [Region.binds] at hd
          have g12 := p12 (by simp [hd])
          rw [if_pos (by rfl)]
          simp only [Oper.wpv]
          go_simp
          exact hK _ _ ⟨sr, sq, bA, bN, hb, p0, p1, p2, p3, p4, p6, p7, p8, p10, p11, p12, p13, fun _ => rfl, p15, p16, fsr, fsq, pa5, bv5, pa9, bv9⟩
        · rintro L T u hd hk hcl ⟨sr, sq, bA, bN, hb, p0, p1, p2, p3, p4, p6, p7, p8, p10, p11, p12, p13, p14, p15, p16, fsr, fsq, pa5, bv5, pa9, bv9⟩ K hK
          simp only [fr, Act.put, List.setIfInBounds_toArray, List.set_cons_zero, List.set_cons_succ, updO] at hK ⊢
          simp [Region.binds] at hd
          have g13 := p13 (by simp [hd])
          rw [if_pos (by rfl)]
          simp only [Oper.wpv]
          go_simp
          exact hK _ _ ⟨sr, sq, bA, bN, hb, p0, p1, p2, p3, p4, p6, p7, p8, p10, p11, p12, p13, p14, fun _ => rfl, p16, fsr, fsq, pa5, bv5, pa9, bv9⟩
        · rintro L T u hd hk hcl ⟨sr, sq, bA, bN, hb, p0, p1, p2, p3, p4, p6, p7, p8, p10, p11, p12, p13, p14, p15, p16, fsr, fsq, pa5, bv5, pa9, bv9⟩ K hK
          simp only [fr, Act.put, List.setIfInBounds_toArray, List.set_cons_zero, List.set_cons_succ, updO] at hK ⊢
          simp [Region.binds] at hd
          have g14 := p14 (by simp [hd])
          rw [if_pos (by rfl)]
          simp only [Oper.wpv]
          go_simp
          exact hK _ _ ⟨sr, sq, bA, bN, hb, p0, p1, p2, p3, p4, p6, p7, p8, p10, p11, p12, p13, p14, p15, fun _ => rfl, fsr, fsq, pa5, bv5, pa9, bv9⟩
      · rintro L T u hl ⟨sr, sq, bA, bN, hb, p0, p1, p2, p3, p4, p6, p7, p8, p10, p11, p12, p13, p14, p15, p16, fsr, fsq, pa5, bv5, pa9, bv9⟩
        simp only [fr, Act.put, List.setIfInBounds_toArray, List.set_cons_zero, List.set_cons_succ]
        have h5 := p15 (hl 15 (by decide))
        have h6 := p16 (hl 16 (by decide))
        have hu2 : Below Y.heap.size Y u := hT2 hu1 hb
        clear p0 p1 p2 p3 p4 p6 p7 p8 p10 p11 p12 p13 p14 p15 p16 fsr fsq pa5 bv5 pa9 bv9 HSb hb hu1
        rw [h5, h6]
        clear h5 h6
        obtain ⟨U2, eU2⟩ : ∃ X : World, X = u := ⟨_, rfl⟩
        subst eU2
        go_upto_region 9 with (fail)
        refine wp_region_inv (by kernel_rfl) [79, 80, 81, 82, 83, 84, 85, 86, 87, 78, 88, 89, 22, 23] (fun L T u => ∃ (sr : SV) (sq : SV) (bA : Nat), Below U2.heap.size U2 u ∧ (L 0 = true → T 79 = .agg #[.int .i64 1, .slice (some ⟨g0, 0, none⟩) 2 2, .int .i64 3]) ∧ (L 1 = true → T 80 = .slice a len cap) ∧ (L 2 = true → T 81 = .agg #[.slice sr.ia sr.il sr.ic, .slice sr.la sr.ll sr.lc, .slice sr.da sr.dl sr.dc, .slice sr.oa sr.ol sr.oc]) ∧ (L 3 = true → T 82 = .slice a1 len1 cap1) ∧ (L 4 = true → T 83 = .agg #[.slice sq.ia sq.il sq.ic, .slice sq.la sq.ll sq.lc, .slice sq.da sq.dl sq.dc, .slice sq.oa sq.ol sq.oc]) ∧ (L 6 = true → T 85 = .slice (some ⟨X2.heap.size + 1 + 1, 0, none⟩) 2 2) ∧ (L 7 = true → T 86 = .agg #[.int .i64 4, .int .i64 0, .int .i64 0, .int .i64 0, .bool false]) ∧ (L 8 = true → T 87 = .tuple #[.string ALL, .int .i64 0]) ∧ (L 9 = true → T 78 = .tuple #[.string ALL, .int .i64 0]) ∧ (L 10 = true → T 88 = .string ALL) ∧ (L 11 = true → T 89 = .int .i64 0) ∧ (L 12 = true → T 22 = .string ALL) ∧ (L 13 = true → T 23 = .int .i64 0) ∧ (L 2 = true → (IsStore u sr ∧ Gd (SV.data sr) 961 ∧ SV.data sr = D0)) ∧ (L 4 = true → (IsStore u sq ∧ Gd (SV.data sq) 961 ∧ SV.data sq = D1)) ∧ (L 5 = true → (T 84 = .slice (some ⟨bA, 0, none⟩) 2 2 ∧ U2.heap.size ≤ bA ∧ bA < u.heap.size)) ∧ (L 5 = true → IsStores u (some ⟨bA, 0, none⟩) 2 2 [sr, sq])) (by decide) (by kernel_rfl) (by kernel_rfl) ?_ ?_ ?_
        · exact ⟨default, default, 0, (Below.refl _ _).drew, nofun, nofun, nofun, nofun, nofun, nofun, nofun, nofun, nofun, nofun, nofun, nofun, nofun, nofun, nofun, nofun, nofun⟩
        · refine ⟨?_, ?_, ?_, ?_, ?_, ?_, ?_, ?_, ?_, ?_, ?_, ?_, ?_, ?_, trivial⟩
          · rintro L T u hd hk hcl ⟨sr, sq, bA, hb, p0, p1, p2, p3, p4, p6, p7, p8, p9, p10, p11, p12, p13, fsr, fsq, pa5, bv5⟩ K hK
            simp only [fr, Act.put, List.setIfInBounds_toArray, List.set_cons_zero, List.set_cons_succ, updO] at hK ⊢
            simp [Region.binds] at hd
            obtain ⟨x0, x1, x2, y0, y1, y2, y3, y4, n0⟩ := HX.out u (hT2 hu2 hb)
            rw [if_pos (by rfl)]
            simp only [Oper.wpv]
            go_simp
            exact hK _ _ ⟨sr, sq, bA, hb, fun _ => rfl, p1, p2, p3, p4, p6, p7, p8, p9, p10, p11, p12, p13, fsr, fsq, pa5, bv5⟩
          · rintro L T u hd hk hcl ⟨sr, sq, bA, hb, p0, p1, p2, p3, p4, p6, p7, p8, p9, p10, p11, p12, p13, fsr, fsq, pa5, bv5⟩ K hK
            simp only [fr, Act.put, List.setIfInBounds_toArray, List.set_cons_zero, List.set_cons_succ, updO] at hK ⊢
            simp [Region.binds] at hd
            rw [if_pos (by rfl)]
            simp only [Oper.wpv]
            go_simp
            exact hK _ _ ⟨sr, sq, bA, hb, p0, fun _ => rfl, p2, p3, p4, p6, p7, p8, p9, p10, p11, p12, p13, fsr, fsq, pa5, bv5⟩
          · rintro L T u hd hk hcl ⟨sr, sq, bA, hb, p0, p1, p2, p3, p4, p6, p7, p8, p9, p10, p11, p12, p13, fsr, fsq, pa5, bv5⟩ K hK
            simp only [fr, Act.put, List.setIfInBounds_toArray, List.set_cons_zero, List.set_cons_succ, updO] at hK ⊢
            simp [Region.binds] at hd
            have g1 := p1 (by simp [hd])
            have k5 := hcl 5 _ rfl
            simp [Region.binds] at k5
            have k8 := hcl 8 _ rfl
            simp [Region.binds] at k8
            have k9 := hcl 9 _ rfl
            simp [Region.binds] at k9
            have k10 := hcl 10 _ rfl
            simp [Region.binds] at k10
            have k11 := hcl 11 _ rfl
            simp [Region.binds] at k11
            have k12 := hcl 12 _ rfl
            simp [Region.binds] at k12
            have k13 := hcl 13 _ rfl
            simp [Region.binds] at k13
            rw [if_pos (by rfl)]
            simp only [Oper.wpv]
            go_simp
            refine (KR0.out u (hT2 hu2 hb)).mono ?_
            rintro e u1 ⟨r9, rfl, hO, hGd, hMd, hg⟩
            exact hK _ _ ⟨r9, sq, bA, hT2 hb hg, p0, p1, fun _ => rfl, p3, p4, p6, p7, fun h => absurd (show L 8 = true from h) (by intro hh; have a8 := k8 hh; have a5 := k5 (by simp [a8]); simp [hk] at a5), fun h => absurd (show L 9 = true from h) (by intro hh; have a9 := k9 hh; have a8 := k8 (by simp [a9]); have a5 := k5 (by simp [a8]); simp [hk] at a5), fun h => absurd (show L 10 = true from h) (by intro hh; have a10 := k10 hh; have a9 := k9 (by simp [a10]); have a8 := k8 (by simp [a9]); have a5 := k5 (by simp [a8]); simp [hk] at a5), fun h => absurd (show L 11 = true from h) (by intro hh; have a11 := k11 hh; have a9 := k9 (by simp [a11]); have a8 := k8 (by simp [a9]); have a5 := k5 (by simp [a8]); simp [hk] at a5), fun h => absurd (show L 12 = true from h) (by intro hh; have a12 := k12 hh; have a10 := k10 (by simp [a12]); have a9 := k9 (by simp [a10]); have a8 := k8 (by simp [a9]); have a5 := k5 (by simp [a8]); simp [hk] at a5), fun h => absurd (show L 13 = true from h) (by intro hh; have a13 := k13 hh; have a11 := k11 (by simp [a13]); have a9 := k9 (by simp [a11]); have a8 := k8 (by simp [a9]); have a5 := k5 (by simp [a8]); simp [hk] at a5), fun _ => ⟨hO.isStore, hGd, hMd⟩, fun h0 => ⟨((fsq h0)).1.below hg, ((fsq h0)).2⟩, fun h => absurd (show L 5 = true from h) (by intro hh; have a5 := k5 hh; simp [hk] at a5), fun h => absurd (show L 5 = true from h) (by intro hh; have a5 := k5 hh; simp [hk] at a5)⟩
          · rintro L T u hd hk hcl ⟨sr, sq, bA, hb, p0, p1, p2, p3, p4, p6, p7, p8, p9, p10, p11, p12, p13, fsr, fsq, pa5, bv5⟩ K hK
            simp only [fr, Act.put, List.setIfInBounds_toArray, List.set_cons_zero, List.set_cons_succ, updO] at hK ⊢
            simp [Region.binds] at hd
            rw [if_pos (by rfl)]
            simp only [Oper.wpv]
            go_simp
            exact hK _ _ ⟨sr, sq, bA, hb, p0, p1, p2, fun _ => rfl, p4, p6, p7, p8, p9, p10, p11, p12, p13, fsr, fsq, pa5, bv5⟩
          · rintro L T u hd hk hcl ⟨sr, sq, bA, hb, p0, p1, p2, p3, p4, p6, p7, p8, p9, p10, p11, p12, p13, fsr, fsq, pa5, bv5⟩ K hK
            simp only [fr, Act.put, List.setIfInBounds_toArray, List.set_cons_zero, List.set_cons_succ, updO] at hK ⊢
            simp [Region.binds] at hd
            have g3 := p3 (by simp [hd])
            have k5 := hcl 5 _ rfl
            simp [Region.binds] at k5
            have k8 := hcl 8 _ rfl
            simp [Region.binds] at k8
            have k9 := hcl 9 _ rfl
            simp [Region.binds] at k9
            have k10 := hcl 10 _ rfl
            simp [Region.binds] at k10
            have k11 := hcl 11 _ rfl
            simp [Region.binds] at k11
            have k12 := hcl 12 _ rfl
            simp [Region.binds] at k12
            have k13 := hcl 13 _ rfl
            simp [Region.binds] at k13
            rw [if_pos (by rfl)]
            simp only [Oper.wpv]
            go_simp
            refine (KR1.out u (hT2 hu2 hb)).mono ?_
            rintro e u1 ⟨r9, rfl, hO, hGd, hMd, hg⟩
            exact hK _ _ ⟨sr, r9, bA, hT2 hb hg, p0, p1, p2, p3, fun _ => rfl, p6, p7, fun h => absurd (show L 8 = true from h) (by intro hh; have a8 := k8 hh; have a5 := k5 (by simp [a8]); simp [hk] at a5), fun h => absurd (show L 9 = true from h) (by intro hh; have a9 := k9 hh; have a8 := k8 (by simp [a9]); have a5 := k5 (by simp [a8]); simp [hk] at a5), fun h => absurd (show L 10 = true from h) (by intro hh; have a10 := k10 hh; have a9 := k9 (by simp [a10]); have a8 := k8 (by simp [a9]); have a5 := k5 (by simp [a8]); simp [hk] at a5), fun h => absurd (show L 11 = true from h) (by intro hh; have a11 := k11 hh; have a9 := k9 (by simp [a11]); have a8 := k8 (by simp [a9]); have a5 := k5 (by simp [a8]); simp [hk] at a5), fun h => absurd (show L 12 = true from h) (by intro hh; have a12 := k12 hh; have a10 := k10 (by simp [a12]); have a9 := k9 (by simp [a10]); have a8 := k8 (by simp [a9]); have a5 := k5 (by simp [a8]); simp [hk] at a5), fun h => absurd (show L 13 = true from h) (by intro hh; have a13 := k13 hh; have a11 := k11 (by simp [a13]); have a9 := k9 (by simp [a11]); have a8 := k8 (by simp [a9]); have a5 := k5 (by simp [a8]); simp [hk] at a5), fun h0 => ⟨((fsr h0)).1.below hg, ((fsr h0)).2⟩, fun _ => ⟨hO.isStore, hGd, hMd⟩, fun h => absurd (show L 5 = true from h) (by intro hh; have a5 := k5 hh; simp [hk] at a5), fun h => absurd (show L 5 = true from h) (by intro hh; have a5 := k5 hh; simp [hk] at a5)⟩
          · rintro L T u hd hk hcl ⟨sr, sq, bA, hb, p0, p1, p2, p3, p4, p6, p7, p8, p9, p10, p11, p12, p13, fsr, fsq, pa5, bv5⟩ K hK
            simp only [fr, Act.put, List.setIfInBounds_toArray, List.set_cons_zero, List.set_cons_succ, updO] at hK ⊢
            simp [Region.binds] at hd
            have g2 := p2 (by simp [hd])
            have g4 := p4 (by simp [hd])
            have k8 := hcl 8 _ rfl
            simp [Region.binds] at k8
            have k9 := hcl 9 _ rfl
            simp [Region.binds] at k9
            have k10 := hcl 10 _ rfl
            simp [Region.binds] at k10
            have k11 := hcl 11 _ rfl
            simp [Region.binds] at k11
            have k12 := hcl 12 _ rfl
            simp [Region.binds] at k12
            have k13 := hcl 13 _ rfl
            simp [Region.binds] at k13
            have hg : Below u.heap.size u (u.alloc (.cells #[.slice sr.ia sr.il sr.ic, .slice sr.la sr.ll sr.lc, .slice sr.da sr.dl sr.dc, .slice sr.oa sr.ol sr.oc, .slice sq.ia sq.il sq.ic, .slice sq.la sq.ll sq.lc, .slice sq.da sq.dl sq.dc, .slice sq.oa sq.ol sq.oc] 55)) := (Below.refl _ _).alloc (Nat.le_refl _) _
            rw [if_pos (by rfl)]
            simp only [Oper.wpv]
            go_simp
            exact hK _ _ ⟨sr, sq, u.heap.size, (hT2 hb hg), p0, p1, p2, p3, p4, p6, p7, fun h => absurd (show L 8 = true from h) (by intro hh; have a8 := k8 hh; simp [hk] at a8), fun h => absurd (show L 9 = true from h) (by intro hh; have a9 := k9 hh; have a8 := k8 (by simp [a9]); simp [hk] at a8), fun h => absurd (show L 10 = true from h) (by intro hh; have a10 := k10 hh; have a9 := k9 (by simp [a10]); have a8 := k8 (by simp [a9]); simp [hk] at a8), fun h => absurd (show L 11 = true from h) (by intro hh; have a11 := k11 hh; have a9 := k9 (by simp [a11]); have a8 := k8 (by simp [a9]); simp [hk] at a8), fun h => absurd (show L 12 = true from h) (by intro hh; have a12 := k12 hh; have a10 := k10 (by simp [a12]); have a9 := k9 (by simp [a10]); have a8 := k8 (by simp [a9]); simp [hk] at a8), fun h => absurd (show L 13 = true from h) (by intro hh; have a13 := k13 hh; have a11 := k11 (by simp [a13]); have a9 := k9 (by simp [a11]); have a8 := k8 (by simp [a9]); simp [hk] at a8), fun h0 => ⟨((fsr h0)).1.below hg, ((fsr h0)).2⟩, fun h0 => ⟨((fsq h0)).1.below hg, ((fsq h0)).2⟩, fun _ => ⟨rfl, hb.size, by simp⟩, fun _ => two_of (r := sr) (q := sq) (fsr (by simp [hd])).1 (fsr (by simp [hd])).2.1.wf (fsq (by simp [hd])).1 (fsq (by simp [hd])).2.1.wf⟩
          · rintro L T u hd hk hcl ⟨sr, sq, bA, hb, p0, p1, p2, p3, p4, p6, p7, p8, p9, p10, p11, p12, p13, fsr, fsq, pa5, bv5⟩ K hK
            simp only [fr, Act.put, List.setIfInBounds_toArray, List.set_cons_zero, List.set_cons_succ, updO] at hK ⊢
            simp [Region.binds] at hd
            rw [if_pos (by rfl)]
            simp only [Oper.wpv]
            go_simp
            exact hK _ _ ⟨sr, sq, bA, hb, p0, p1, p2, p3, p4, fun _ => rfl, p7, p8, p9, p10, p11, p12, p13, fsr, fsq, pa5, bv5⟩
          · rintro L T u hd hk hcl ⟨sr, sq, bA, hb, p0, p1, p2, p3, p4, p6, p7, p8, p9, p10, p11, p12, p13, fsr, fsq, pa5, bv5⟩ K hK
            simp only [fr, Act.put, List.setIfInBounds_toArray, List.set_cons_zero, List.set_cons_succ, updO] at hK ⊢
            simp [Region.binds] at hd
            rw [if_pos (by rfl)]
            simp only [Oper.wpv]
            go_simp
            exact hK _ _ ⟨sr, sq, bA, hb, p0, p1, p2, p3, p4, p6, fun _ => rfl, p8, p9, p10, p11, p12, p13, fsr, fsq, pa5, bv5⟩
          · rintro L T u hd hk hcl ⟨sr, sq, bA, hb, p0, p1, p2, p3, p4, p6, p7, p8, p9, p10, p11, p12, p13, fsr, fsq, pa5, bv5⟩ K hK
            simp only [fr, Act.put, List.setIfInBounds_toArray, List.set_cons_zero, List.set_cons_succ, updO] at hK ⊢
            simp [Region.binds] at hd
            have g0 := p0 (by simp [hd])
            have g5 := pa5 (by simp [hd])
            have g6 := p6 (by simp [hd])
            have g7 := p7 (by simp [hd])
            have kk0 := hcl 5 _ rfl
            simp [Region.binds] at kk0
            have kk := kk0 (by simp [hd])
            rw [if_pos (by rfl)]
            simp only [Oper.wpv]
            go_simp
            refine (HSc.out sr sq bA u (hT2 hu2 hb) (bv5 (by simp [hd])) (fsr (by simp [kk])).2.1.ok.ok (fsq (by simp [kk])).2.1.ok.ok (fsr (by simp [kk])).2.2 (fsq (by simp [kk])).2.2).mono ?_
            rintro e u1 ⟨rfl, hg⟩
            exact hK _ _ ⟨sr, sq, bA, hT2 hb hg, p0, p1, p2, p3, p4, p6, p7, fun _ => rfl, p9, p10, p11, p12, p13, fun h0 => ⟨((fsr h0)).1.below hg, ((fsr h0)).2⟩, fun h0 => ⟨((fsq h0)).1.below hg, ((fsq h0)).2⟩, fun h0 => ⟨(pa5 h0).1, (pa5 h0).2.1, Nat.lt_of_lt_of_le (pa5 h0).2.2 hg.size⟩, fun h0 => (bv5 h0).below hg⟩
          · rintro L T u hd hk hcl ⟨sr, sq, bA, hb, p0, p1, p2, p3, p4, p6, p7, p8, p9, p10, p11, p12, p13, fsr, fsq, pa5, bv5⟩ K hK
            simp only [fr, Act.put, List.setIfInBounds_toArray, List.set_cons_zero, List.set_cons_succ, updO] at hK ⊢
            simp [Region.binds] at hd
            have g8 := p8 (by simp [hd])
            rw [if_pos (by rfl)]
            simp only [Oper.wpv]
            go_simp
            exact hK _ _ ⟨sr, sq, bA, hb, p0, p1, p2, p3, p4, p6, p7, p8, fun _ => rfl, p10, p11, p12, p13, fsr, fsq, pa5, bv5⟩
          · rintro L T u hd hk hcl ⟨sr, sq, bA, hb, p0, p1, p2, p3, p4, p6, p7, p8, p9, p10, p11, p12, p13, fsr, fsq, pa5, bv5⟩ K hK
            simp only [fr, Act.put, List.setIfInBounds_toArray, List.set_cons_zero, List.set_cons_succ, updO] at hK ⊢
            simp [Region.binds] at hd
            have g9 := p9 (by simp [hd])
            rw [if_pos (by rfl)]
            simp only [Oper.wpv]
            go_simp
            exact hK _ _ ⟨sr, sq, bA, hb, p0, p1, p2, p3, p4, p6, p7, p8, p9, fun _ => rfl, p11, p12, p13, fsr, fsq, pa5, bv5⟩
          · rintro L T u hd hk hcl ⟨sr, sq, bA, hb, p0, p1, p2, p3, p4, p6, p7, p8, p9, p10, p11, p12, p13, fsr, fsq, pa5, bv5⟩ K hK
            simp only [fr, Act.put, List.setIfInBounds_toArray, List.set_cons_zero, List.set_cons_succ, updO] at hK ⊢
            simp [Region.binds] at hd
            have g9 := p9 (by simp [hd])
            rw [if_pos (by rfl)]
            simp only [Oper.wpv]
            go_simp
            exact hK _ _ ⟨sr, sq, bA, hb, p0, p1, p2, p3, p4, p6, p7, p8, p9, p10, fun _ => rfl, p12, p13, fsr, fsq, pa5, bv5⟩
          · rintro L T u hd hk hcl ⟨sr, sq, bA, hb, p0, p1, p2, p3, p4, p6, p7, p8, p9, p10, p11, p12, p13, fsr, fsq, pa5, bv5⟩ K hK
            simp only [fr, Act.put, List.setIfInBounds_toArray, List.set_cons_zero, List.set_cons_succ, updO] at hK ⊢
            simp [Region.binds] at hd
            have g10 := p10 (by simp [hd])
            rw [if_pos (by rfl)]
            simp only [Oper.wpv]
            go_simp
            exact hK _ _ ⟨sr, sq, bA, hb, p0, p1, p2, p3, p4, p6, p7, p8, p9, p10, p11, fun _ => rfl, p13, fsr, fsq, pa5, bv5⟩
          · rintro L T u hd hk hcl ⟨sr, sq, bA, hb, p0, p1, p2, p3, p4, p6, p7, p8, p9, p10, p11, p12, p13, fsr, fsq, pa5, bv5⟩ K hK
            simp only [fr, Act.put, List.setIfInBounds_toArray, List.set_cons_zero, List.set_cons_succ, updO] at hK ⊢
            simp [Region.binds] at hd
            have g11 := p11 (by simp [hd])
            rw [if_pos (by rfl)]
            simp only [Oper.wpv]
            go_simp
            exact hK _ _ ⟨sr, sq, bA, hb, p0, p1, p2, p3, p4, p6, p7, p8, p9, p10, p11, p12, fun _ => rfl, fsr, fsq, pa5, bv5⟩
        · rintro L T u hl ⟨sr, sq, bA, hb, p0, p1, p2, p3, p4, p6, p7, p8, p9, p10, p11, p12, p13, fsr, fsq, pa5, bv5⟩
          simp only [fr, Act.put, List.setIfInBounds_toArray, List.set_cons_zero, List.set_cons_succ]
          have h5 := p12 (hl 12 (by decide))
          have h6 := p13 (hl 13 (by decide))
          have hu3 : Below Y.heap.size Y u := hT2 hu2 hb
          have hwu := (KV.out u hu3).2.2.2.2.2.2
          clear p0 p1 p2 p3 p4 p6 p7 p8 p9 p10 p11 p12 p13 fsr fsq pa5 bv5 HSc hb hu2 HX KV KR0 KR1 KR2
          rw [h5, h6]
          clear h5 h6
  
          go_wp2
          go_ret
          refine ⟨ret_bool ?_, hwu⟩
          rw [Go.ByteArray.toList_eq]
          decide
  · go_upto_region 3 with (go_at_call 13; refine (hPK _).mono ?_; rintro e u ⟨rfl, hu⟩; rw [hu]; clear hu)
    go_upto_region 6 with (go_at_call 13; refine (picked_any _ _ _ (by assumption) (by decide) (by decide)).mono ?_; rintro e u ⟨rfl, hu⟩; rw [hu]; clear hu; first | rw [← EL.out.1] | rw [← EL.out.2.1] | rw [← EL.out.2.2])
    clear hPK
    obtain ⟨X2, eX2⟩ : ∃ X : World, X = (X1.alloc (.cells #[.int .i64 1, .int .i64 2, .int .i64 4] 3)).alloc (.cells #[.int .i64 2, .int .i64 (LX : Int), .int .i64 (AX : Int), .int .i64 (1 + (BX : Int)), .bool false] 25) := ⟨_, rfl⟩
    have oX : ObAt X2 (X1.heap.size + 1) #[.int .i64 2, .int .i64 (LX : Int), .int .i64 (AX : Int), .int .i64 (1 + (BX : Int)), .bool false] 25 := by rw [eX2]; have h8 := ObAt.new (X1.alloc (.cells #[.int .i64 1, .int .i64 2, .int .i64 4] 3)) #[.int .i64 2, .int .i64 (LX : Int), .int .i64 (AX : Int), .int .i64 (1 + (BX : Int)), .bool false] 25; simpa using h8
    have bX2 : Below X1.heap.size X1 X2 := by rw [eX2]; exact ((Below.refl _ _).alloc (Nat.le_refl _) _).alloc (by simp) _
    rw [← eX2]
    clear eX2
    go_upto_region 7 with (fail)
    obtain ⟨Y, eY⟩ : ∃ X : World, X = ((X2.alloc (.cells #[.int .i64 0, .int .i64 1, .bool false, .bool false] 48)).alloc (.cells #[.int .i64 0, .int .i64 2, .bool true, .bool false] 48)).alloc (.cells #[.slice (some ⟨X2.heap.size, 0, none⟩) 1 1, .slice (some ⟨X2.heap.size + 1, 0, none⟩) 1 1] 49) := ⟨_, rfl⟩
    have bA1 : Below X2.heap.size X2 (X2.alloc (.cells #[.int .i64 0, .int .i64 1, .bool false, .bool false] 48)) := (Below.refl _ _).alloc (Nat.le_refl _) _
    have oA : ObAt Y X2.heap.size #[.int .i64 0, .int .i64 1, .bool false, .bool false] 48 := by rw [eY]; exact ((ObAt.new X2 _ _).below ((Below.refl _ _).alloc (Nat.le_refl _) _)).below ((Below.refl _ _).alloc (Nat.le_refl _) _)
    have oB : ObAt Y (X2.heap.size + 1) #[.int .i64 0, .int .i64 2, .bool true, .bool false] 48 := by
      rw [eY]
      have h8 := (ObAt.new (X2.alloc (.cells #[.int .i64 0, .int .i64 1, .bool false, .bool false] 48)) #[.int .i64 0, .int .i64 2, .bool true, .bool false] 48).below ((Below.refl _ _).alloc (Nat.le_refl _) (.cells #[.slice (some ⟨X2.heap.size, 0, none⟩) 1 1, .slice (some ⟨X2.heap.size + 1, 0, none⟩) 1 1] 49))
      simpa using h8
    have oN : ObAt Y (X2.heap.size + 1 + 1) #[.slice (some ⟨X2.heap.size, 0, none⟩) 1 1, .slice (some ⟨X2.heap.size + 1, 0, none⟩) 1 1] 49 := by
      rw [eY]
      have h8 := ObAt.new ((X2.alloc (.cells #[.int .i64 0, .int .i64 1, .bool false, .bool false] 48)).alloc (.cells #[.int .i64 0, .int .i64 2, .bool true, .bool false] 48)) #[.slice (some ⟨X2.heap.size, 0, none⟩) 1 1, .slice (some ⟨X2.heap.size + 1, 0, none⟩) 1 1] 49
      simpa using h8
    have bY : Below X2.heap.size X2 Y := by rw [eY]; exact (((Below.refl _ _).alloc (Nat.le_refl _) _).alloc (by simp) _).alloc (by simp; omega) _
    rw [← eY]
    clear eY bA1
    have bY1 : Below X1.heap.size X1 Y := bX2.trans (bY.mono bX2.size)
    have bwY : Below w.heap.size w Y := bwX.trans (bY1.mono bwX.size)
    have KV : Hid (∀ U, Below Y.heap.size Y U → ObAt U w1.heap.size #[.int .i64 1, .slice (some ⟨g0, 0, none⟩) 2 2, .int .i64 3] 32 ∧ ObAt U (X1.heap.size + 1) #[.int .i64 2, .int .i64 (LX : Int), .int .i64 (AX : Int), .int .i64 (1 + (BX : Int)), .bool false] 25 ∧ ObAt U (X2.heap.size + 1 + 1) #[.slice (some ⟨X2.heap.size, 0, none⟩) 1 1, .slice (some ⟨X2.heap.size + 1, 0, none⟩) 1 1] 49 ∧ IsLabs U (some ⟨g0, 0, none⟩) 2 2 LS2 ∧ IsNotes U (some ⟨X2.heap.size, 0, none⟩) 1 1 [nA] ∧ IsNotes U (some ⟨X2.heap.size + 1, 0, none⟩) 1 1 [nB] ∧ Below w.heap.size w U) := fun U hU =>
      ⟨(oC.below bY1).below hU, (oX.below bY).below hU, oN.below hU, (hlX.below bY1).below hU, St.IsRow.below (note_of Y _ nA oA) hU, St.IsRow.below (note_of Y _ nB oB) hU, bwY.trans (hU.mono bwY.size)⟩
    have KT : Hid (∀ U, Below Y.heap.size Y U → ∀ Z, Below U.heap.size U Z → Lib.TabIs Tryd.prog Z "internal/strconv.uint64pow10" .u64 Lib.pow10Tab) := fun U hU Z hZ => HT.out Z ((KV.out U hU).2.2.2.2.2.2.trans (hZ.mono (KV.out U hU).2.2.2.2.2.2.size))
    have KR : Hid (∀ U, Below Y.heap.size Y U → ∀ (a : Option Addr) (len cap : Nat) (rs : List St.RV), IsRaws w a len cap rs → Calls Tryd.prog 16 #[.slice a len cap, .int .i64 20] U fun e w' => ∃ r : SV, e = .returned r.val ∧ OwnStore w' U.heap.size r ∧ Gd r.data 961 ∧ r.data = mkAll rs 20 ∧ Below U.heap.size U w') := fun U hU a len cap rs h => St.store_data a len cap rs 20 U (h.below ((KV.out U hU).2.2.2.2.2.2)) (by omega)
    have KR0 : Hid (∀ U, Below Y.heap.size Y U → Calls Tryd.prog 16 #[.slice a len cap, .int .i64 20] U fun e w' => ∃ r : SV, e = .returned r.val ∧ OwnStore w' U.heap.size r ∧ Gd r.data 961 ∧ r.data = mkAll rs 20 ∧ Below U.heap.size U w') := fun U hU => KR.out U hU a len cap rs hr
    have KR1 : Hid (∀ U, Below Y.heap.size Y U → Calls Tryd.prog 16 #[.slice a1 len1 cap1, .int .i64 20] U fun e w' => ∃ r : SV, e = .returned r.val ∧ OwnStore w' U.heap.size r ∧ Gd r.data 961 ∧ r.data = mkAll rs1 20 ∧ Below U.heap.size U w') := fun U hU => KR.out U hU a1 len1 cap1 rs1 hr1
    have KR2 : Hid (∀ U, Below Y.heap.size Y U → Calls Tryd.prog 16 #[.slice a2 len2 cap2, .int .i64 20] U fun e w' => ∃ r : SV, e = .returned r.val ∧ OwnStore w' U.heap.size r ∧ Gd r.data 961 ∧ r.data = mkAll rs2 20 ∧ Below U.heap.size U w') := fun U hU => KR.out U hU a2 len2 cap2 rs2 hr2
    obtain ⟨D0, eD0⟩ : ∃ D, D = mkAll rs 20 := ⟨_, rfl⟩
    obtain ⟨D1, eD1⟩ : ∃ D, D = mkAll rs1 20 := ⟨_, rfl⟩
    obtain ⟨D2, eD2⟩ : ∃ D, D = mkAll rs2 20 := ⟨_, rfl⟩
    rw [← eD0] at KR0
    rw [← eD1] at KR1
    rw [← eD2] at KR2
    clear eD0 eD1 eD2 KR oC oX oN oA oB hlX hr hr1 hr2
    obtain ⟨OUT, eOUT⟩ : ∃ x, x = showTxt LS2 0 [D0.svd, D1.svd] [⟨some ⟨X2.heap.size, 0, none⟩, 1, 1, [nA]⟩, ⟨some ⟨X2.heap.size + 1, 0, none⟩, 1, 1, [nB]⟩] ⟨2, (LX : Int), (AX : Int), 1 + (BX : Int), false⟩ := ⟨_, rfl⟩
    have HSa : Hid (∀ (r q : SV) (sb : Nat) (U : World), Below Y.heap.size Y U → IsStores U (some ⟨sb, 0, none⟩) 2 2 [r, q] → storeOK r = true → storeOK q = true → r.data = D0 → q.data = D1 → Calls Tryd.prog 11 #[.agg #[.int .i64 1, .slice (some ⟨g0, 0, none⟩) 2 2, .int .i64 3], .int .i64 0, .slice (some ⟨sb, 0, none⟩) 2 2, .slice (some ⟨X2.heap.size + 1 + 1, 0, none⟩) 2 2, .agg #[.int .i64 2, .int .i64 (LX : Int), .int .i64 (AX : Int), .int .i64 (1 + (BX : Int)), .bool false]] U fun e w' => e = .returned (.tuple #[.string OUT, .int .i64 0]) ∧ Below U.heap.size U w') := fun r q sb U hU hS h1 h2 h3 h4 => by
      obtain ⟨-, -, oN, hL, hA, hB, -⟩ := KV.out U hU
      rw [eOUT]
      exact show_two g0 0 (Or.inl rfl) r q D0 D1 ⟨some ⟨X2.heap.size, 0, none⟩, 1, 1, [nA]⟩ ⟨some ⟨X2.heap.size + 1, 0, none⟩, 1, 1, [nB]⟩ sb (X2.heap.size + 1 + 1) 2 (LX : Int) (AX : Int) (1 + (BX : Int)) U hL hS (nls_of U _ _ _ _ _ oN rfl rfl hA hB) h1 h2 h3 h4 rfl (Or.inl rfl) (by omega) (KT.out U hU)
    have HSb : Hid (∀ (r q : SV) (sb nb : Nat) (U : World), Below Y.heap.size Y U → IsStores U (some ⟨sb, 0, none⟩) 2 2 [r, q] → BoxN U nb 2 [.slice (some ⟨X2.heap.size, 0, none⟩) 1 1, .slice none 0 0] → storeOK r = true → storeOK q = true → r.data = D0 → q.data = D2 → Calls Tryd.prog 11 #[.agg #[.int .i64 1, .slice (some ⟨g0, 0, none⟩) 2 2, .int .i64 3], .int .i64 0, .slice (some ⟨sb, 0, none⟩) 2 2, .slice (some ⟨nb, 0, none⟩) 2 2, .agg #[.int .i64 2, .int .i64 (LX : Int), .int .i64 (AX : Int), .int .i64 (1 + (BX : Int)), .bool false]] U fun e w' => e = .returned (.tuple #[.string OUT, .int .i64 0]) ∧ Below U.heap.size U w') := fun r q sb nb U hU hS hN h1 h2 h3 h4 => by
      obtain ⟨-, -, -, hL, hA, hB, -⟩ := KV.out U hU
      rw [eOUT, txt_hidden (b1 := some ⟨X2.heap.size, 0, none⟩) (b2 := none) (o := D2.svd) (m1 := 1) (m2 := 0)]
      refine show_two g0 0 (Or.inl rfl) r q D0 D2 ⟨some ⟨X2.heap.size, 0, none⟩, 1, 1, [nA]⟩ ⟨none, 0, 0, []⟩ sb nb 2 (LX : Int) (AX : Int) (1 + (BX : Int)) U hL hS ?_ h1 h2 h3 h4 rfl (Or.inr rfl) (by omega) (KT.out U hU)
      refine ⟨⟨rfl, Nat.le_refl _, by unfold maxLen; omega, fun e => by simp at e, fun _ => ⟨nb, 0, rfl, hN.lt, fun i hi j hj => ?_⟩⟩, fun i hi => ?_⟩
      · obtain rfl : j = 0 := by omega
        rcases (by omega : i = 0 ∨ i = 1) with rfl | rfl
        · exact (hN.c 0 (by decide)).1
        · exact (hN.c 1 (by decide)).1
      · rcases (by omega : i = 0 ∨ i = 1) with rfl | rfl
        · exact hA
        · exact St.isRow_nil _ _ _
    have HSc : Hid (∀ (r q : SV) (sb : Nat) (U : World), Below Y.heap.size Y U → IsStores U (some ⟨sb, 0, none⟩) 2 2 [r, q] → storeOK r = true → storeOK q = true → r.data = D0 → q.data = D1 → Calls Tryd.prog 11 #[.agg #[.int .i64 1, .slice (some ⟨g0, 0, none⟩) 2 2, .int .i64 3], .int .i64 1, .slice (some ⟨sb, 0, none⟩) 2 2, .slice (some ⟨X2.heap.size + 1 + 1, 0, none⟩) 2 2, .agg #[.int .i64 4, .int .i64 0, .int .i64 0, .int .i64 0, .bool false]] U fun e w' => e = .returned (.tuple #[.string ALL, .int .i64 0]) ∧ Below U.heap.size U w') := fun r q sb U hU hS h1 h2 h3 h4 => by
      obtain ⟨-, -, oN, hL, hA, hB, -⟩ := KV.out U hU
      have h8 := show_two g0 1 (Or.inr rfl) r q D0 D1 ⟨some ⟨X2.heap.size, 0, none⟩, 1, 1, [nA]⟩ ⟨some ⟨X2.heap.size + 1, 0, none⟩, 1, 1, [nB]⟩ sb (X2.heap.size + 1 + 1) 4 0 0 0 U hL hS (nls_of U _ _ _ _ _ oN rfl rfl hA hB) h1 h2 h3 h4 rfl (Or.inl rfl) (by omega) (KT.out U hU)
      rw [txt_all] at h8
      exact h8
    clear eOUT KT
    have HX : Hid (∀ U, Below Y.heap.size Y U → U.cell? ⟨w1.heap.size, 0, none⟩ = some (.int .i64 1) ∧ U.cell? ⟨w1.heap.size, 1, none⟩ = some (.slice (some ⟨g0, 0, none⟩) 2 2) ∧ U.cell? ⟨w1.heap.size, 2, none⟩ = some (.int .i64 3) ∧ U.cell? ⟨X1.heap.size + 1, 0, none⟩ = some (.int .i64 2) ∧ U.cell? ⟨X1.heap.size + 1, 1, none⟩ = some (.int .i64 (LX : Int)) ∧ U.cell? ⟨X1.heap.size + 1, 2, none⟩ = some (.int .i64 (AX : Int)) ∧ U.cell? ⟨X1.heap.size + 1, 3, none⟩ = some (.int .i64 (1 + (BX : Int))) ∧ U.cell? ⟨X1.heap.size + 1, 4, none⟩ = some (.bool false) ∧ U.cell? ⟨X2.heap.size + 1 + 1, 0, none⟩ = some (.slice (some ⟨X2.heap.size, 0, none⟩) 1 1)) := fun U hU => by
      obtain ⟨oC, oX, oN, -⟩ := KV.out U hU
      exact ⟨oC.cell 0, oC.cell 1, oC.cell 2, oX.cell 0, oX.cell 1, oX.cell 2, oX.cell 3, oX.cell 4, oN.cell 0⟩
    have hY0 : Below Y.heap.size Y Y := Below.refl _ _
    refine wp_region_inv (by kernel_rfl) [52, 53, 54, 55, 56, 57, 58, 59, 60, 51, 61, 62, 18, 19] (fun L T u => ∃ (sr : SV) (sq : SV) (bA : Nat), Below Y.heap.size Y u ∧ (L 0 = true → T 52 = .agg #[.int .i64 1, .slice (some ⟨g0, 0, none⟩) 2 2, .int .i64 3]) ∧ (L 1 = true → T 53 = .slice a len cap) ∧ (L 2 = true → T 54 = .agg #[.slice sr.ia sr.il sr.ic, .slice sr.la sr.ll sr.lc, .slice sr.da sr.dl sr.dc, .slice sr.oa sr.ol sr.oc]) ∧ (L 3 = true → T 55 = .slice a1 len1 cap1) ∧ (L 4 = true → T 56 = .agg #[.slice sq.ia sq.il sq.ic, .slice sq.la sq.ll sq.lc, .slice sq.da sq.dl sq.dc, .slice sq.oa sq.ol sq.oc]) ∧ (L 6 = true → T 58 = .slice (some ⟨X2.heap.size + 1 + 1, 0, none⟩) 2 2) ∧ (L 7 = true → T 59 = .agg #[.int .i64 2, .int .i64 (LX : Int), .int .i64 (AX : Int), .int .i64 (1 + (BX : Int)), .bool false]) ∧ (L 8 = true → T 60 = .tuple #[.string OUT, .int .i64 0]) ∧ (L 9 = true → T 51 = .tuple #[.string OUT, .int .i64 0]) ∧ (L 10 = true → T 61 = .string OUT) ∧ (L 11 = true → T 62 = .int .i64 0) ∧ (L 12 = true → T 18 = .string OUT) ∧ (L 13 = true → T 19 = .int .i64 0) ∧ (L 2 = true → (IsStore u sr ∧ Gd (SV.data sr) 961 ∧ SV.data sr = D0)) ∧ (L 4 = true → (IsStore u sq ∧ Gd (SV.data sq) 961 ∧ SV.data sq = D1)) ∧ (L 5 = true → (T 57 = .slice (some ⟨bA, 0, none⟩) 2 2 ∧ Y.heap.size ≤ bA ∧ bA < u.heap.size)) ∧ (L 5 = true → IsStores u (some ⟨bA, 0, none⟩) 2 2 [sr, sq])) (by decide) (by kernel_rfl) (by kernel_rfl) ?_ ?_ ?_
    · exact ⟨default, default, 0, (Below.refl _ _).drew, nofun, nofun, nofun, nofun, nofun, nofun, nofun, nofun, nofun, nofun, nofun, nofun, nofun, nofun, nofun, nofun, nofun⟩
    · refine ⟨?_, ?_, ?_, ?_, ?_, ?_, ?_, ?_, ?_, ?_, ?_, ?_, ?_, ?_, trivial⟩
      · rintro L T u hd hk hcl ⟨sr, sq, bA, hb, p0, p1, p2, p3, p4, p6, p7, p8, p9, p10, p11, p12, p13, fsr, fsq, pa5, bv5⟩ K hK
        simp only [fr, Act.put, List.setIfInBounds_toArray, List.set_cons_zero, List.set_cons_succ, updO] at hK ⊢
        simp [Region.binds] at hd
        obtain ⟨x0, x1, x2, y0, y1, y2, y3, y4, n0⟩ := HX.out u (hb)
        rw [if_pos (by rfl)]
        simp only [Oper.wpv]
        go_simp
        exact hK _ _ ⟨sr, sq, bA, hb, fun _ => rfl, p1, p2, p3, p4, p6, p7, p8, p9, p10, p11, p12, p13, fsr, fsq, pa5, bv5⟩
      · rintro L T u hd hk hcl ⟨sr, sq, bA, hb, p0, p1, p2, p3, p4, p6, p7, p8, p9, p10, p11, p12, p13, fsr, fsq, pa5, bv5⟩ K hK
        simp only [fr, Act.put, List.setIfInBounds_toArray, List.set_cons_zero, List.set_cons_succ, updO] at hK ⊢
        simp [Region.binds] at hd
        rw [if_pos (by rfl)]
        simp only [Oper.wpv]
        go_simp
        exact hK _ _ ⟨sr, sq, bA, hb, p0, fun _ => rfl, p2, p3, p4, p6, p7, p8, p9, p10, p11, p12, p13, fsr, fsq, pa5, bv5⟩
      · rintro L T u hd hk hcl ⟨sr, sq, bA, hb, p0, p1, p2, p3, p4, p6, p7, p8, p9, p10, p11, p12, p13, fsr, fsq, pa5, bv5⟩ K hK
        simp only [fr, Act.put, List.setIfInBounds_toArray, List.set_cons_zero, List.set_cons_succ, updO] at hK ⊢
        simp [Region.binds] at hd
        have g1 := p1 (by simp [hd])
        have k5 := hcl 5 _ rfl
        simp [Region.binds] at k5
        have k8 := hcl 8 _ rfl
        simp [Region.binds] at k8
        have k9 := hcl 9 _ rfl
        simp [Region.binds] at k9
        have k10 := hcl 10 _ rfl
        simp [Region.binds] at k10
        have k11 := hcl 11 _ rfl
        simp [Region.binds] at k11
        have k12 := hcl 12 _ rfl
        simp [Region.binds] at k12
        have k13 := hcl 13 _ rfl
        simp [Region.binds] at k13
        rw [if_pos (by rfl)]
        simp only [Oper.wpv]
        go_simp
        refine (KR0.out u (hb)).mono ?_
        rintro e u1 ⟨r9, rfl, hO, hGd, hMd, hg⟩
        exact hK _ _ ⟨r9, sq, bA, hT2 hb hg, p0, p1, fun _ => rfl, p3, p4, p6, p7, fun h => absurd (show L 8 = true from h) (by intro hh; have a8 := k8 hh; have a5 := k5 (by simp [a8]); simp [hk] at a5), fun h => absurd (show L 9 = true from h) (by intro hh; have a9 := k9 hh; have a8 := k8 (by simp [a9]); have a5 := k5 (by simp [a8]); simp [hk] at a5), fun h => absurd (show L 10 = true from h) (by intro hh; have a10 := k10 hh; have a9 := k9 (by simp [a10]); have a8 := k8 (by simp [a9]); have a5 := k5 (by simp [a8]); simp [hk] at a5), fun h => absurd (show L 11 = true from h) (by intro hh; have a11 := k11 hh; have a9 := k9 (by simp [a11]); have a8 := k8 (by simp [a9]); have a5 := k5 (by simp [a8]); simp [hk] at a5), fun h => absurd (show L 12 = true from h) (by intro hh; have a12 := k12 hh; have a10 := k10 (by simp [a12]); have a9 := k9 (by simp [a10]); have a8 := k8 (by simp [a9]); have a5 := k5 (by simp [a8]); simp [hk] at a5), fun h => absurd (show L 13 = true from h) (by intro hh; have a13 := k13 hh; have a11 := k11 (by simp [a13]); have a9 := k9 (by simp [a11]); have a8 := k8 (by simp [a9]); have a5 := k5 (by simp [a8]); simp [hk] at a5), fun _ => ⟨hO.isStore, hGd, hMd⟩, fun h0 => ⟨((fsq h0)).1.below hg, ((fsq h0)).2⟩, fun h => absurd (show L 5 = true from h) (by intro hh; have a5 := k5 hh; simp [hk] at a5), fun h => absurd (show L 5 = true from h) (by intro hh; have a5 := k5 hh; simp [hk] at a5)⟩
      · rintro L T u hd hk hcl ⟨sr, sq, bA, hb, p0, p1, p2, p3, p4, p6, p7, p8, p9, p10, p11, p12, p13, fsr, fsq, pa5, bv5⟩ K hK
        simp only [fr, Act.put, List.setIfInBounds_toArray, List.set_cons_zero, List.set_cons_succ, updO] at hK ⊢
        simp [Region.binds] at hd
        rw [if_pos (by rfl)]
        simp only [Oper.wpv]
        go_simp
        exact hK _ _ ⟨sr, sq, bA, hb, p0, p1, p2, fun _ => rfl, p4, p6, p7, p8, p9, p10, p11, p12, p13, fsr, fsq, pa5, bv5⟩
      · rintro L T u hd hk hcl ⟨sr, sq, bA, hb, p0, p1, p2, p3, p4, p6, p7, p8, p9, p10, p11, p12, p13, fsr, fsq, pa5, bv5⟩ K hK
        simp only [fr, Act.put, List.setIfInBounds_toArray, List.set_cons_zero, List.set_cons_succ, updO] at hK ⊢
        simp [Region.binds] at hd
        have g3 := p3 (by simp [hd])
        have k5 := hcl 5 _ rfl
        simp [Region.binds] at k5
        have k8 := hcl 8 _ rfl
        simp [Region.binds] at k8
        have k9 := hcl 9 _ rfl
        simp [Region.binds] at k9
        have k10 := hcl 10 _ rfl
        simp [Region.binds] at k10
        have k11 := hcl 11 _ rfl
        simp [Region.binds] at k11
        have k12 := hcl 12 _ rfl
        simp [Region.binds] at k12
        have k13 := hcl 13 _ rfl
        simp [Region.binds] at k13
        rw [if_pos (by rfl)]
        simp only [Oper.wpv]
        go_simp
        refine (KR1.out u (hb)).mono ?_
        rintro e u1 ⟨r9, rfl, hO, hGd, hMd, hg⟩
        exact hK _ _ ⟨sr, r9, bA, hT2 hb hg, p0, p1, p2, p3, fun _ => rfl, p6, p7, fun h => absurd (show L 8 = true from h) (by intro hh; have a8 := k8 hh; have a5 := k5 (by simp [a8]); simp [hk] at a5), fun h => absurd (show L 9 = true from h) (by intro hh; have a9 := k9 hh; have a8 := k8 (by simp [a9]); have a5 := k5 (by simp [a8]); simp [hk] at a5), fun h => absurd (show L 10 = true from h) (by intro hh; have a10 := k10 hh; have a9 := k9 (by simp [a10]); have a8 := k8 (by simp [a9]); have a5 := k5 (by simp [a8]); simp [hk] at a5), fun h => absurd (show L 11 = true from h) (by intro hh; have a11 := k11 hh; have a9 := k9 (by simp [a11]); have a8 := k8 (by simp [a9]); have a5 := k5 (by simp [a8]); simp [hk] at a5), fun h => absurd (show L 12 = true from h) (by intro hh; have a12 := k12 hh; have a10 := k10 (by simp [a12]); have a9 := k9 (by simp [a10]); have a8 := k8 (by simp [a9]); have a5 := k5 (by simp [a8]); simp [hk] at a5), fun h => absurd (show L 13 = true from h) (by intro hh; have a13 := k13 hh; have a11 := k11 (by simp [a13]); have a9 := k9 (by simp [a11]); have a8 := k8 (by simp [a9]); have a5 := k5 (by simp [a8]); simp [hk] at a5), fun h0 => ⟨((fsr h0)).1.below hg, ((fsr h0)).2⟩, fun _ => ⟨hO.isStore, hGd, hMd⟩, fun h => absurd (show L 5 = true from h) (by intro hh; have a5 := k5 hh; simp [hk] at a5), fun h => absurd (show L 5 = true from h) (by intro hh; have a5 := k5 hh; simp [hk] at a5)⟩
      · rintro L T u hd hk hcl ⟨sr, sq, bA, hb, p0, p1, p2, p3, p4, p6, p7, p8, p9, p10, p11, p12, p13, fsr, fsq, pa5, bv5⟩ K hK
        simp only [fr, Act.put, List.setIfInBounds_toArray, List.set_cons_zero, List.set_cons_succ, updO] at hK ⊢
        simp [Region.binds] at hd
        have g2 := p2 (by simp [hd])
        have g4 := p4 (by simp [hd])
        have k8 := hcl 8 _ rfl
        simp [Region.binds] at k8
        have k9 := hcl 9 _ rfl
        simp [Region.binds] at k9
        have k10 := hcl 10 _ rfl
        simp [Region.binds] at k10
        have k11 := hcl 11 _ rfl
        simp [Region.binds] at k11
        have k12 := hcl 12 _ rfl
        simp [Region.binds] at k12
        have k13 := hcl 13 _ rfl
        simp [Region.binds] at k13
        have hg : Below u.heap.size u (u.alloc (.cells #[.slice sr.ia sr.il sr.ic, .slice sr.la sr.ll sr.lc, .slice sr.da sr.dl sr.dc, .slice sr.oa sr.ol sr.oc, .slice sq.ia sq.il sq.ic, .slice sq.la sq.ll sq.lc, .slice sq.da sq.dl sq.dc, .slice sq.oa sq.ol sq.oc] 55)) := (Below.refl _ _).alloc (Nat.le_refl _) _
        rw [if_pos (by rfl)]
        simp only [Oper.wpv]
        go_simp
        exact hK _ _ ⟨sr, sq, u.heap.size, (hT2 hb hg), p0, p1, p2, p3, p4, p6, p7, fun h => absurd (show L 8 = true from h) (by intro hh; have a8 := k8 hh; simp [hk] at a8), fun h => absurd (show L 9 = true from h) (by intro hh; have a9 := k9 hh; have a8 := k8 (by simp [a9]); simp [hk] at a8), fun h => absurd (show L 10 = true from h) (by intro hh; have a10 := k10 hh; have a9 := k9 (by simp [a10]); have a8 := k8 (by simp [a9]); simp [hk] at a8), fun h => absurd (show L 11 = true from h) (by intro hh; have a11 := k11 hh; have a9 := k9 (by simp [a11]); have a8 := k8 (by simp [a9]); simp [hk] at a8), fun h => absurd (show L 12 = true from h) (by intro hh; have a12 := k12 hh; have a10 := k10 (by simp [a12]); have a9 := k9 (by simp [a10]); have a8 := k8 (by simp [a9]); simp [hk] at a8), fun h => absurd (show L 13 = true from h) (by intro hh; have a13 := k13 hh; have a11 := k11 (by simp [a13]); have a9 := k9 (by simp [a11]); have a8 := k8 (by simp [a9]); simp [hk] at a8), fun h0 => ⟨((fsr h0)).1.below hg, ((fsr h0)).2⟩, fun h0 => ⟨((fsq h0)).1.below hg, ((fsq h0)).2⟩, fun _ => ⟨rfl, hb.size, by simp⟩, fun _ => two_of (r := sr) (q := sq) (fsr (by simp [hd])).1 (fsr (by simp [hd])).2.1.wf (fsq (by simp [hd])).1 (fsq (by simp [hd])).2.1.wf⟩
      · rintro L T u hd hk hcl ⟨sr, sq, bA, hb, p0, p1, p2, p3, p4, p6, p7, p8, p9, p10, p11, p12, p13, fsr, fsq, pa5, bv5⟩ K hK
        simp only [fr, Act.put, List.setIfInBounds_toArray, List.set_cons_zero, List.set_cons_succ, updO] at hK ⊢
        simp [Region.binds] at hd
        rw [if_pos (by rfl)]
        simp only [Oper.wpv]
        go_simp
        exact hK _ _ ⟨sr, sq, bA, hb, p0, p1, p2, p3, p4, fun _ => rfl, p7, p8, p9, p10, p11, p12, p13, fsr, fsq, pa5, bv5⟩
      · rintro L T u hd hk hcl ⟨sr, sq, bA, hb, p0, p1, p2, p3, p4, p6, p7, p8, p9, p10, p11, p12, p13, fsr, fsq, pa5, bv5⟩ K hK
        simp only [fr, Act.put, List.setIfInBounds_toArray, List.set_cons_zero, List.set_cons_succ, updO] at hK ⊢
        simp [Region.binds] at hd
        obtain ⟨x0, x1, x2, y0, y1, y2, y3, y4, n0⟩ := HX.out u (hb)
        rw [if_pos (by rfl)]
        simp only [Oper.wpv]
        go_simp
        exact hK _ _ ⟨sr, sq, bA, hb, p0, p1, p2, p3, p4, p6, fun _ => rfl, p8, p9, p10, p11, p12, p13, fsr, fsq, pa5, bv5⟩
      · rintro L T u hd hk hcl ⟨sr, sq, bA, hb, p0, p1, p2, p3, p4, p6, p7, p8, p9, p10, p11, p12, p13, fsr, fsq, pa5, bv5⟩ K hK
        simp only [fr, Act.put, List.setIfInBounds_toArray, List.set_cons_zero, List.set_cons_succ, updO] at hK ⊢
        simp [Region.binds] at hd
        have g0 := p0 (by simp [hd])
        have g5 := pa5 (by simp [hd])
        have g6 := p6 (by simp [hd])
        have g7 := p7 (by simp [hd])
        have kk0 := hcl 5 _ rfl
        simp [Region.binds] at kk0
        have kk := kk0 (by simp [hd])
        rw [if_pos (by rfl)]
        simp only [Oper.wpv]
        go_simp
        refine (HSa.out sr sq bA u (hb) (bv5 (by simp [hd])) (fsr (by simp [kk])).2.1.ok.ok (fsq (by simp [kk])).2.1.ok.ok (fsr (by simp [kk])).2.2 (fsq (by simp [kk])).2.2).mono ?_
        rintro e u1 ⟨rfl, hg⟩
        exact hK _ _ ⟨sr, sq, bA, hT2 hb hg, p0, p1, p2, p3, p4, p6, p7, fun _ => rfl, p9, p10, p11, p12, p13, fun h0 => ⟨((fsr h0)).1.below hg, ((fsr h0)).2⟩, fun h0 => ⟨((fsq h0)).1.below hg, ((fsq h0)).2⟩, fun h0 => ⟨(pa5 h0).1, (pa5 h0).2.1, Nat.lt_of_lt_of_le (pa5 h0).2.2 hg.size⟩, fun h0 => (bv5 h0).below hg⟩
      · rintro L T u hd hk hcl ⟨sr, sq, bA, hb, p0, p1, p2, p3, p4, p6, p7, p8, p9, p10, p11, p12, p13, fsr, fsq, pa5, bv5⟩ K hK
        simp only [fr, Act.put, List.setIfInBounds_toArray, List.set_cons_zero, List.set_cons_succ, updO] at hK ⊢
        simp [Region.binds] at hd
        have g8 := p8 (by simp [hd])
        rw [if_pos (by rfl)]
        simp only [Oper.wpv]
        go_simp
        exact hK _ _ ⟨sr, sq, bA, hb, p0, p1, p2, p3, p4, p6, p7, p8, fun _ => rfl, p10, p11, p12, p13, fsr, fsq, pa5, bv5⟩
      · rintro L T u hd hk hcl ⟨sr, sq, bA, hb, p0, p1, p2, p3, p4, p6, p7, p8, p9, p10, p11, p12, p13, fsr, fsq, pa5, bv5⟩ K hK
        simp only [fr, Act.put, List.setIfInBounds_toArray, List.set_cons_zero, List.set_cons_succ, updO] at hK ⊢
        simp [Region.binds] at hd
        have g9 := p9 (by simp [hd])
        rw [if_pos (by rfl)]
        simp only [Oper.wpv]
        go_simp
        exact hK _ _ ⟨sr, sq, bA, hb, p0, p1, p2, p3, p4, p6, p7, p8, p9, fun _ => rfl, p11, p12, p13, fsr, fsq, pa5, bv5⟩
      · rintro L T u hd hk hcl ⟨sr, sq, bA, hb, p0, p1, p2, p3, p4, p6, p7, p8, p9, p10, p11, p12, p13, fsr, fsq, pa5, bv5⟩ K hK
        simp only [fr, Act.put, List.setIfInBounds_toArray, List.set_cons_zero, List.set_cons_succ, updO] at hK ⊢
        simp [Region.binds] at hd
        have g9 := p9 (by simp [hd])
        rw [if_pos (by rfl)]
        simp only [Oper.wpv]
        go_simp
        exact hK _ _ ⟨sr, sq, bA, hb, p0, p1, p2, p3, p4, p6, p7, p8, p9, p10, fun _ => rfl, p12, p13, fsr, fsq, pa5, bv5⟩
      · rintro L T u hd hk hcl ⟨sr, sq, bA, hb, p0, p1, p2, p3, p4, p6, p7, p8, p9, p10, p11, p12, p13, fsr, fsq, pa5, bv5⟩ K hK
        simp only [fr, Act.put, List.setIfInBounds_toArray, List.set_cons_zero, List.set_cons_succ, updO] at hK ⊢
        simp [Region.binds] at hd
        have g10 := p10 (by simp [hd])
        rw [if_pos (by rfl)]
        simp only [Oper.wpv]
        go_simp
        exact hK _ _ ⟨sr, sq, bA, hb, p0, p1, p2, p3, p4, p6, p7, p8, p9, p10, p11, fun _ => rfl, p13, fsr, fsq, pa5, bv5⟩
      · rintro L T u hd hk hcl ⟨sr, sq, bA, hb, p0, p1, p2, p3, p4, p6, p7, p8, p9, p10, p11, p12, p13, fsr, fsq, pa5, bv5⟩ K hK
        simp only [fr, Act.put, List.setIfInBounds_toArray, List.set_cons_zero, List.set_cons_succ, updO] at hK ⊢
        simp [Region.binds] at hd
        have g11 := p11 (by simp [hd])
        rw [if_pos (by rfl)]
        simp only [Oper.wpv]
        go_simp
        exact hK _ _ ⟨sr, sq, bA, hb, p0, p1, p2, p3, p4, p6, p7, p8, p9, p10, p11, p12, fun _ => rfl, fsr, fsq, pa5, bv5⟩
    · rintro L T u hl ⟨sr, sq, bA, hb, p0, p1, p2, p3, p4, p6, p7, p8, p9, p10, p11, p12, p13, fsr, fsq, pa5, bv5⟩
      simp only [fr, Act.put, List.setIfInBounds_toArray, List.set_cons_zero, List.set_cons_succ]
      have h5 := p12 (hl 12 (by decide))
      have h6 := p13 (hl 13 (by decide))
      have hu1 : Below Y.heap.size Y u := hb
      clear p0 p1 p2 p3 p4 p6 p7 p8 p9 p10 p11 p12 p13 fsr fsq pa5 bv5 HSa hb
      rw [h5, h6]
      clear h5 h6
      obtain ⟨U1, eU1⟩ : ∃ X : World, X = u := ⟨_, rfl⟩
      subst eU1
      go_upto_region 8 with (fail)
      refine wp_region_inv (by kernel_rfl) [64, 65, 66, 67, 68, 69, 70, 71, 72, 73, 74, 75, 63, 76, 77, 20, 21] (fun L T u => ∃ (sr : SV) (sq : SV) (bA : Nat) (bN : Nat), Below U1.heap.size U1 u ∧ (L 0 = true → T 64 = .agg #[.int .i64 1, .slice (some ⟨g0, 0, none⟩) 2 2, .int .i64 3]) ∧ (L 1 = true → T 65 = .slice a len cap) ∧ (L 2 = true → T 66 = .agg #[.slice sr.ia sr.il sr.ic, .slice sr.la sr.ll sr.lc, .slice sr.da sr.dl sr.dc, .slice sr.oa sr.ol sr.oc]) ∧ (L 3 = true → T 67 = .slice a2 len2 cap2) ∧ (L 4 = true → T 68 = .agg #[.slice sq.ia sq.il sq.ic, .slice sq.la sq.ll sq.lc, .slice sq.da sq.dl sq.dc, .slice sq.oa sq.ol sq.oc]) ∧ (L 6 = true → T 70 = .slice (some ⟨X2.heap.size + 1 + 1, 0, none⟩) 2 2) ∧ (L 7 = true → T 71 = .pointer (some ⟨X2.heap.size + 1 + 1, 0, none⟩)) ∧ (L 8 = true → T 72 = .slice (some ⟨X2.heap.size, 0, none⟩) 1 1) ∧ (L 10 = true → T 74 = .agg #[.int .i64 2, .int .i64 (LX : Int), .int .i64 (AX : Int), .int .i64 (1 + (BX : Int)), .bool false]) ∧ (L 11 = true → T 75 = .tuple #[.string OUT, .int .i64 0]) ∧ (L 12 = true → T 63 = .tuple #[.string OUT, .int .i64 0]) ∧ (L 13 = true → T 76 = .string OUT) ∧ (L 14 = true → T 77 = .int .i64 0) ∧ (L 15 = true → T 20 = .string OUT) ∧ (L 16 = true → T 21 = .int .i64 0) ∧ (L 2 = true → (IsStore u sr ∧ Gd (SV.data sr) 961 ∧ SV.data sr = D0)) ∧ (L 4 = true → (IsStore u sq ∧ Gd (SV.data sq) 961 ∧ SV.data sq = D2)) ∧ (L 5 = true → (T 69 = .slice (some ⟨bA, 0, none⟩) 2 2 ∧ U1.heap.size ≤ bA ∧ bA < u.heap.size)) ∧ (L 5 = true → IsStores u (some ⟨bA, 0, none⟩) 2 2 [sr, sq]) ∧ (L 9 = true → (T 73 = .slice (some ⟨bN, 0, none⟩) 2 2 ∧ U1.heap.size ≤ bN ∧ bN < u.heap.size)) ∧ (L 9 = true → BoxN u bN 2 [.slice (some ⟨X2.heap.size, 0, none⟩) 1 1, .slice none 0 0])) (by decide) (by kernel_rfl) (by kernel_rfl) ?_ ?_ ?_
      · exact ⟨default, default, 0, 0, (Below.refl _ _).drew, nofun, nofun, nofun, nofun, nofun, nofun, nofun, nofun, nofun, nofun, nofun, nofun, nofun, nofun, nofun, nofun, nofun, nofun, nofun, nofun, nofun⟩
      · refine ⟨?_, ?_, ?_, ?_, ?_, ?_, ?_, ?_, ?_, ?_, ?_, ?_, ?_, ?_, ?_, ?_, ?_, trivial⟩
        · rintro L T u hd hk hcl ⟨sr, sq, bA, bN, hb, p0, p1, p2, p3, p4, p6, p7, p8, p10, p11, p12, p13, p14, p15, p16, fsr, fsq, pa5, bv5, pa9, bv9⟩ K hK
          simp only [fr, Act.put, List.setIfInBounds_toArray, List.set_cons_zero, List.set_cons_succ, updO] at hK ⊢
          simp [Region.binds] at hd
          obtain ⟨x0, x1, x2, y0, y1, y2, y3, y4, n0⟩ := HX.out u (hT2 hu1 hb)
          rw [if_pos (by rfl)]
          simp only [Oper.wpv]
          go_simp
          exact hK _ _ ⟨sr, sq, bA, bN, hb, fun _ => rfl, p1, p2, p3, p4, p6, p7, p8, p10, p11, p12, p13, p14, p15, p16, fsr, fsq, pa5, bv5, pa9, bv9⟩
        · rintro L T u hd hk hcl ⟨sr, sq, bA, bN, hb, p0, p1, p2, p3, p4, p6, p7, p8, p10, p11, p12, p13, p14, p15, p16, fsr, fsq, pa5, bv5, pa9, bv9⟩ K hK
          simp only [fr, Act.put, List.setIfInBounds_toArray, List.set_cons_zero, List.set_cons_succ, updO] at hK ⊢
          simp [Region.binds] at hd
          rw [if_pos (by rfl)]
          simp only [Oper.wpv]
          go_simp
          exact hK _ _ ⟨sr, sq, bA, bN, hb, p0, fun _ => rfl, p2, p3, p4, p6, p7, p8, p10, p11, p12, p13, p14, p15, p16, fsr, fsq, pa5, bv5, pa9, bv9⟩
        · rintro L T u hd hk hcl ⟨sr, sq, bA, bN, hb, p0, p1, p2, p3, p4, p6, p7, p8, p10, p11, p12, p13, p14, p15, p16, fsr, fsq, pa5, bv5, pa9, bv9⟩ K hK
          simp only [fr, Act.put, List.setIfInBounds_toArray, List.set_cons_zero, List.set_cons_succ, updO] at hK ⊢
          simp [Region.binds] at hd
          have g1 := p1 (by simp [hd])
          have k5 := hcl 5 _ rfl
          simp [Region.binds] at k5
          have k11 := hcl 11 _ rfl
          simp [Region.binds] at k11
          have k12 := hcl 12 _ rfl
          simp [Region.binds] at k12
          have k13 := hcl 13 _ rfl
          simp [Region.binds] at k13
          have k14 := hcl 14 _ rfl
          simp [Region.binds] at k14
          have k15 := hcl 15 _ rfl
          simp [Region.binds] at k15
          have k16 := hcl 16 _ rfl
          simp [Region.binds] at k16
          rw [if_pos (by rfl)]
          simp only [Oper.wpv]
          go_simp
          refine (KR0.out u (hT2 hu1 hb)).mono ?_
          rintro e u1 ⟨r9, rfl, hO, hGd, hMd, hg⟩
          exact hK _ _ ⟨r9, sq, bA, bN, hT2 hb hg, p0, p1, fun _ => rfl, p3, p4, p6, p7, p8, p10, fun h => absurd (show L 11 = true from h) (by intro hh; have a11 := k11 hh; have a5 := k5 (by simp [a11]); simp [hk] at a5), fun h => absurd (show L 12 = true from h) (by intro hh; have a12 := k12 hh; have a11 := k11 (by simp [a12]); have a5 := k5 (by simp [a11]); simp [hk] at a5), fun h => absurd (show L 13 = true from h) (by intro hh; have a13 := k13 hh; have a12 := k12 (by simp [a13]); have a11 := k11 (by simp [a12]); have a5 := k5 (by simp [a11]); simp [hk] at a5), fun h => absurd (show L 14 = true from h) (by intro hh; have a14 := k14 hh; have a12 := k12 (by simp [a14]); have a11 := k11 (by simp [a12]); have a5 := k5 (by simp [a11]); simp [hk] at a5), fun h => absurd (show L 15 = true from h) (by intro hh; have a15 := k15 hh; have a13 := k13 (by simp [a15]); have a12 := k12 (by simp [a13]); have a11 := k11 (by simp [a12]); have a5 := k5 (by simp [a11]); simp [hk] at a5), fun h => absurd (show L 16 = true from h) (by intro hh; have a16 := k16 hh; have a14 := k14 (by simp [a16]); have a12 := k12 (by simp [a14]); have a11 := k11 (by simp [a12]); have a5 := k5 (by simp [a11]); simp [hk] at a5), fun _ => ⟨hO.isStore, hGd, hMd⟩, fun h0 => ⟨((fsq h0)).1.below hg, ((fsq h0)).2⟩, fun h => absurd (show L 5 = true from h) (by intro hh; have a5 := k5 hh; simp [hk] at a5), fun h => absurd (show L 5 = true from h) (by intro hh; have a5 := k5 hh; simp [hk] at a5), fun h0 => ⟨(pa9 h0).1, (pa9 h0).2.1, Nat.lt_of_lt_of_le (pa9 h0).2.2 hg.size⟩, fun h0 => (bv9 h0).below hg (bv9 h0).lt⟩
        · rintro L T u hd hk hcl ⟨sr, sq, bA, bN, hb, p0, p1, p2, p3, p4, p6, p7, p8, p10, p11, p12, p13, p14, p15, p16, fsr, fsq, pa5, bv5, pa9, bv9⟩ K hK
          simp only [fr, Act.put, List.setIfInBounds_toArray, List.set_cons_zero, List.set_cons_succ, updO] at hK ⊢
          simp [Region.binds] at hd
          rw [if_pos (by rfl)]
          simp only [Oper.wpv]
          go_simp
          exact hK _ _ ⟨sr, sq, bA, bN, hb, p0, p1, p2, fun _ => rfl, p4, p6, p7, p8, p10, p11, p12, p13, p14, p15, p16, fsr, fsq, pa5, bv5, pa9, bv9⟩
        · rintro L T u hd hk hcl ⟨sr, sq, bA, bN, hb, p0, p1, p2, p3, p4, p6, p7, p8, p10, p11, p12, p13, p14, p15, p16, fsr, fsq, pa5, bv5, pa9, bv9⟩ K hK
          simp only [fr, Act.put, List.setIfInBounds_toArray, List.set_cons_zero, List.set_cons_succ, updO] at hK ⊢
          simp [Region.binds] at hd
          have g3 := p3 (by simp [hd])
          have k5 := hcl 5 _ rfl
          simp [Region.binds] at k5
          have k11 := hcl 11 _ rfl
          simp [Region.binds] at k11
          have k12 := hcl 12 _ rfl
          simp [Region.binds] at k12
          have k13 := hcl 13 _ rfl
          simp [Region.binds] at k13
          have k14 := hcl 14 _ rfl
          simp [Region.binds] at k14
          have k15 := hcl 15 _ rfl
          simp [Region.binds] at k15
          have k16 := hcl 16 _ rfl
          simp [Region.binds] at k16
          rw [if_pos (by rfl)]
          simp only [Oper.wpv]
          go_simp
          refine (KR2.out u (hT2 hu1 hb)).mono ?_
          rintro e u1 ⟨r9, rfl, hO, hGd, hMd, hg⟩
          exact hK _ _ ⟨sr, r9, bA, bN, hT2 hb hg, p0, p1, p2, p3, fun _ => rfl, p6, p7, p8, p10, fun h => absurd (show L 11 = true from h) (by intro hh; have a11 := k11 hh; have a5 := k5 (by simp [a11]); simp [hk] at a5), fun h => absurd (show L 12 = true from h) (by intro hh; have a12 := k12 hh; have a11 := k11 (by simp [a12]); have a5 := k5 (by simp [a11]); simp [hk] at a5), fun h => absurd (show L 13 = true from h) (by intro hh; have a13 := k13 hh; have a12 := k12 (by simp [a13]); have a11 := k11 (by simp [a12]); have a5 := k5 (by simp [a11]); simp [hk] at a5), fun h => absurd (show L 14 = true from h) (by intro hh; have a14 := k14 hh; have a12 := k12 (by simp [a14]); have a11 := k11 (by simp [a12]); have a5 := k5 (by simp [a11]); simp [hk] at a5), fun h => absurd (show L 15 = true from h) (by intro hh; have a15 := k15 hh; have a13 := k13 (by simp [a15]); have a12 := k12 (by simp [a13]); have a11 := k11 (by simp [a12]); have a5 := k5 (by simp [a11]); simp [hk] at a5), fun h => absurd (show L 16 = true from h) (by intro hh; have a16 := k16 hh; have a14 := k14 (by simp [a16]); have a12 := k12 (by simp [a14]); have a11 := k11 (by simp [a12]); have a5 := k5 (by simp [a11]); simp [hk] at a5), fun h0 => ⟨((fsr h0)).1.below hg, ((fsr h0)).2⟩, fun _ => ⟨hO.isStore, hGd, hMd⟩, fun h => absurd (show L 5 = true from h) (by intro hh; have a5 := k5 hh; simp [hk] at a5), fun h => absurd (show L 5 = true from h) (by intro hh; have a5 := k5 hh; simp [hk] at a5), fun h0 => ⟨(pa9 h0).1, (pa9 h0).2.1, Nat.lt_of_lt_of_le (pa9 h0).2.2 hg.size⟩, fun h0 => (bv9 h0).below hg (bv9 h0).lt⟩
        · rintro L T u hd hk hcl ⟨sr, sq, bA, bN, hb, p0, p1, p2, p3, p4, p6, p7, p8, p10, p11, p12, p13, p14, p15, p16, fsr, fsq, pa5, bv5, pa9, bv9⟩ K hK
          simp only [fr, Act.put, List.setIfInBounds_toArray, List.set_cons_zero, List.set_cons_succ, updO] at hK ⊢
          simp [Region.binds] at hd
          have g2 := p2 (by simp [hd])
          have g4 := p4 (by simp [hd])
          have k11 := hcl 11 _ rfl
          simp [Region.binds] at k11
          have k12 := hcl 12 _ rfl
          simp [Region.binds] at k12
          have k13 := hcl 13 _ rfl
          simp [Region.binds] at k13
          have k14 := hcl 14 _ rfl
          simp [Region.binds] at k14
          have k15 := hcl 15 _ rfl
          simp [Region.binds] at k15
          have k16 := hcl 16 _ rfl
          simp [Region.binds] at k16
          have hg : Below u.heap.size u (u.alloc (.cells #[.slice sr.ia sr.il sr.ic, .slice sr.la sr.ll sr.lc, .slice sr.da sr.dl sr.dc, .slice sr.oa sr.ol sr.oc, .slice sq.ia sq.il sq.ic, .slice sq.la sq.ll sq.lc, .slice sq.da sq.dl sq.dc, .slice sq.oa sq.ol sq.oc] 55)) := (Below.refl _ _).alloc (Nat.le_refl _) _
          rw [if_pos (by rfl)]
          simp only [Oper.wpv]
          go_simp
          exact hK _ _ ⟨sr, sq, u.heap.size, bN, (hT2 hb hg), p0, p1, p2, p3, p4, p6, p7, p8, p10, fun h => absurd (show L 11 = true from h) (by intro hh; have a11 := k11 hh; simp [hk] at a11), fun h => absurd (show L 12 = true from h) (by intro hh; have a12 := k12 hh; have a11 := k11 (by simp [a12]); simp [hk] at a11), fun h => absurd (show L 13 = true from h) (by intro hh; have a13 := k13 hh; have a12 := k12 (by simp [a13]); have a11 := k11 (by simp [a12]); simp [hk] at a11), fun h => absurd (show L 14 = true from h) (by intro hh; have a14 := k14 hh; have a12 := k12 (by simp [a14]); have a11 := k11 (by simp [a12]); simp [hk] at a11), fun h => absurd (show L 15 = true from h) (by intro hh; have a15 := k15 hh; have a13 := k13 (by simp [a15]); have a12 := k12 (by simp [a13]); have a11 := k11 (by simp [a12]); simp [hk] at a11), fun h => absurd (show L 16 = true from h) (by intro hh; have a16 := k16 hh; have a14 := k14 (by simp [a16]); have a12 := k12 (by simp [a14]); have a11 := k11 (by simp [a12]); simp [hk] at a11), fun h0 => ⟨((fsr h0)).1.below hg, ((fsr h0)).2⟩, fun h0 => ⟨((fsq h0)).1.below hg, ((fsq h0)).2⟩, fun _ => ⟨rfl, hb.size, by simp⟩, fun _ => two_of (r := sr) (q := sq) (fsr (by simp [hd])).1 (fsr (by simp [hd])).2.1.wf (fsq (by simp [hd])).1 (fsq (by simp [hd])).2.1.wf, fun h0 => ⟨(pa9 h0).1, (pa9 h0).2.1, Nat.lt_of_lt_of_le (pa9 h0).2.2 hg.size⟩, fun h0 => (bv9 h0).below hg (bv9 h0).lt⟩
        · rintro L T u hd hk hcl ⟨sr, sq, bA, bN, hb, p0, p1, p2, p3, p4, p6, p7, p8, p10, p11, p12, p13, p14, p15, p16, fsr, fsq, pa5, bv5, pa9, bv9⟩ K hK
          simp only [fr, Act.put, List.setIfInBounds_toArray, List.set_cons_zero, List.set_cons_succ, updO] at hK ⊢
          simp [Region.binds] at hd
          rw [if_pos (by rfl)]
          simp only [Oper.wpv]
          go_simp
          exact hK _ _ ⟨sr, sq, bA, bN, hb, p0, p1, p2, p3, p4, fun _ => rfl, p7, p8, p10, p11, p12, p13, p14, p15, p16, fsr, fsq, pa5, bv5, pa9, bv9⟩
        · rintro L T u hd hk hcl ⟨sr, sq, bA, bN, hb, p0, p1, p2, p3, p4, p6, p7, p8, p10, p11, p12, p13, p14, p15, p16, fsr, fsq, pa5, bv5, pa9, bv9⟩ K hK
          simp only [fr, Act.put, List.setIfInBounds_toArray, List.set_cons_zero, List.set_cons_succ, updO] at hK ⊢
          simp [Region.binds] at hd
          have g6 := p6 (by simp [hd])
          rw [if_pos (by rfl)]
          simp only [Oper.wpv]
          go_simp
          exact hK _ _ ⟨sr, sq, bA, bN, hb, p0, p1, p2, p3, p4, p6, fun _ => rfl, p8, p10, p11, p12, p13, p14, p15, p16, fsr, fsq, pa5, bv5, pa9, bv9⟩
        · rintro L T u hd hk hcl ⟨sr, sq, bA, bN, hb, p0, p1, p2, p3, p4, p6, p7, p8, p10, p11, p12, p13, p14, p15, p16, fsr, fsq, pa5, bv5, pa9, bv9⟩ K hK
          simp only [fr, Act.put, List.setIfInBounds_toArray, List.set_cons_zero, List.set_cons_succ, updO] at hK ⊢
          simp [Region.binds] at hd
          have g7 := p7 (by simp [hd])
          obtain ⟨x0, x1, x2, y0, y1, y2, y3, y4, n0⟩ := HX.out u (hT2 hu1 hb)
          rw [if_pos (by rfl)]
          simp only [Oper.wpv]
          go_simp
          exact hK _ _ ⟨sr, sq, bA, bN, hb, p0, p1, p2, p3, p4, p6, p7, fun _ => rfl, p10, p11, p12, p13, p14, p15, p16, fsr, fsq, pa5, bv5, pa9, bv9⟩
        · rintro L T u hd hk hcl ⟨sr, sq, bA, bN, hb, p0, p1, p2, p3, p4, p6, p7, p8, p10, p11, p12, p13, p14, p15, p16, fsr, fsq, pa5, bv5, pa9, bv9⟩ K hK
          simp only [fr, Act.put, List.setIfInBounds_toArray, List.set_cons_zero, List.set_cons_succ, updO] at hK ⊢
          simp [Region.binds] at hd
          have g8 := p8 (by simp [hd])
          have k11 := hcl 11 _ rfl
          simp [Region.binds] at k11
          have k12 := hcl 12 _ rfl
          simp [Region.binds] at k12
          have k13 := hcl 13 _ rfl
          simp [Region.binds] at k13
          have k14 := hcl 14 _ rfl
          simp [Region.binds] at k14
          have k15 := hcl 15 _ rfl
          simp [Region.binds] at k15
          have k16 := hcl 16 _ rfl
          simp [Region.binds] at k16
          have hg : Below u.heap.size u (u.alloc (.cells #[.slice (some ⟨X2.heap.size, 0, none⟩) 1 1, .slice none 0 0] 49)) := (Below.refl _ _).alloc (Nat.le_refl _) _
          rw [if_pos (by rfl)]
          simp only [Oper.wpv]
          go_simp
          exact hK _ _ ⟨sr, sq, bA, u.heap.size, (hT2 hb hg), p0, p1, p2, p3, p4, p6, p7, p8, p10, fun h => absurd (show L 11 = true from h) (by intro hh; have a11 := k11 hh; simp [hk] at a11), fun h => absurd (show L 12 = true from h) (by intro hh; have a12 := k12 hh; have a11 := k11 (by simp [a12]); simp [hk] at a11), fun h => absurd (show L 13 = true from h) (by intro hh; have a13 := k13 hh; have a12 := k12 (by simp [a13]); have a11 := k11 (by simp [a12]); simp [hk] at a11), fun h => absurd (show L 14 = true from h) (by intro hh; have a14 := k14 hh; have a12 := k12 (by simp [a14]); have a11 := k11 (by simp [a12]); simp [hk] at a11), fun h => absurd (show L 15 = true from h) (by intro hh; have a15 := k15 hh; have a13 := k13 (by simp [a15]); have a12 := k12 (by simp [a13]); have a11 := k11 (by simp [a12]); simp [hk] at a11), fun h => absurd (show L 16 = true from h) (by intro hh; have a16 := k16 hh; have a14 := k14 (by simp [a16]); have a12 := k12 (by simp [a14]); have a11 := k11 (by simp [a12]); simp [hk] at a11), fun h0 => ⟨((fsr h0)).1.below hg, ((fsr h0)).2⟩, fun h0 => ⟨((fsq h0)).1.below hg, ((fsq h0)).2⟩, fun h0 => ⟨(pa5 h0).1, (pa5 h0).2.1, Nat.lt_of_lt_of_le (pa5 h0).2.2 hg.size⟩, fun h0 => (bv5 h0).below hg, fun _ => ⟨rfl, hb.size, by simp⟩, fun _ => boxn_new u #[.slice (some ⟨X2.heap.size, 0, none⟩) 1 1, .slice none 0 0] 49 2 rfl⟩
        · rintro L T u hd hk hcl ⟨sr, sq, bA, bN, hb, p0, p1, p2, p3, p4, p6, p7, p8, p10, p11, p12, p13, p14, p15, p16, fsr, fsq, pa5, bv5, pa9, bv9⟩ K hK
          simp only [fr, Act.put, List.setIfInBounds_toArray, List.set_cons_zero, List.set_cons_succ, updO] at hK ⊢
          simp [Region.binds] at hd
          obtain ⟨x0, x1, x2, y0, y1, y2, y3, y4, n0⟩ := HX.out u (hT2 hu1 hb)
          rw [if_pos (by rfl)]
          simp only [Oper.wpv]
          go_simp
          exact hK _ _ ⟨sr, sq, bA, bN, hb, p0, p1, p2, p3, p4, p6, p7, p8, fun _ => rfl, p11, p12, p13, p14, p15, p16, fsr, fsq, pa5, bv5, pa9, bv9⟩
        · rintro L T u hd hk hcl ⟨sr, sq, bA, bN, hb, p0, p1, p2, p3, p4, p6, p7, p8, p10, p11, p12, p13, p14, p15, p16, fsr, fsq, pa5, bv5, pa9, bv9⟩ K hK
          simp only [fr, Act.put, List.setIfInBounds_toArray, List.set_cons_zero, List.set_cons_succ, updO] at hK ⊢
          simp [Region.binds] at hd
          have g0 := p0 (by simp [hd])
          have g5 := pa5 (by simp [hd])
          have g9 := pa9 (by simp [hd])
          have g10 := p10 (by simp [hd])
          have kk0 := hcl 5 _ rfl
          simp [Region.binds] at kk0
          have kk := kk0 (by simp [hd])
          rw [if_pos (by rfl)]
          simp only [Oper.wpv]
          go_simp
          refine (HSb.out sr sq bA bN u (hT2 hu1 hb) (bv5 (by simp [hd])) (bv9 (by simp [hd])) (fsr (by simp [kk])).2.1.ok.ok (fsq (by simp [kk])).2.1.ok.ok (fsr (by simp [kk])).2.2 (fsq (by simp [kk])).2.2).mono ?_
          rintro e u1 ⟨rfl, hg⟩
          exact hK _ _ ⟨sr, sq, bA, bN, hT2 hb hg, p0, p1, p2, p3, p4, p6, p7, p8, p10, fun _ => rfl, p12, p13, p14, p15, p16, fun h0 => ⟨((fsr h0)).1.below hg, ((fsr h0)).2⟩, fun h0 => ⟨((fsq h0)).1.below hg, ((fsq h0)).2⟩, fun h0 => ⟨(pa5 h0).1, (pa5 h0).2.1, Nat.lt_of_lt_of_le (pa5 h0).2.2 hg.size⟩, fun h0 => (bv5 h0).below hg, fun h0 => ⟨(pa9 h0).1, (pa9 h0).2.1, Nat.lt_of_lt_of_le (pa9 h0).2.2 hg.size⟩, fun h0 => (bv9 h0).below hg (bv9 h0).lt⟩
        · rintro L T u hd hk hcl ⟨sr, sq, bA, bN, hb, p0, p1, p2, p3, p4, p6, p7, p8, p10, p11, p12, p13, p14, p15, p16, fsr, fsq, pa5, bv5, pa9, bv9⟩ K hK
          simp only [fr, Act.put, List.setIfInBounds_toArray, List.set_cons_zero, List.set_cons_succ, updO] at hK ⊢
          simp [Region.binds] at hd
          have g11 := p11 (by simp [hd])
          rw [if_pos (by rfl)]
          simp only [Oper.wpv]
          go_simp
          exact hK _ _ ⟨sr, sq, bA, bN, hb, p0, p1, p2, p3, p4, p6, p7, p8, p10, p11, fun _ => rfl, p13, p14, p15, p16, fsr, fsq, pa5, bv5, pa9, bv9⟩
        · rintro L T u hd hk hcl ⟨sr, sq, bA, bN, hb, p0, p1, p2, p3, p4, p6, p7, p8, p10, p11, p12, p13, p14, p15, p16, fsr, fsq, pa5, bv5, pa9, bv9⟩ K hK
          simp only [fr, Act.put, List.setIfInBounds_toArray, List.set_cons_zero, List.set_cons_succ, updO] at hK ⊢
          simp [Region.binds] at hd
          have g12 := p12 (by simp [hd])
          rw [if_pos (by rfl)]
          simp only [Oper.wpv]
          go_simp
          exact hK _ _ ⟨sr, sq, bA, bN, hb, p0, p1, p2, p3, p4, p6, p7, p8, p10, p11, p12, fun _ => rfl, p14, p15, p16, fsr, fsq, pa5, bv5, pa9, bv9⟩
        · rintro L T u hd hk hcl ⟨sr, sq, bA, bN, hb, p0, p1, p2, p3, p4, p6, p7, p8, p10, p11, p12, p13, p14, p15, p16, fsr, fsq, pa5, bv5, pa9, bv9⟩ K hK
          simp only [fr, Act.put, List.setIfInBounds_toArray, List.set_cons_zero, List.set_cons_succ, updO] at hK ⊢
          simp [Region.binds] at hd
          have g12 := p12 (by simp [hd])
          rw [if_pos (by rfl)]
          simp only [Oper.wpv]
          go_simp
          exact hK _ _ ⟨sr, sq, bA, bN, hb, p0, p1, p2, p3, p4, p6, p7, p8, p10, p11, p12, p13, fun _ => rfl, p15, p16, fsr, fsq, pa5, bv5, pa9, bv9⟩
        · rintro L T u hd hk hcl ⟨sr, sq, bA, bN, hb, p0, p1, p2, p3, p4, p6, p7, p8, p10, p11, p12, p13, p14, p15, p16, fsr, fsq, pa5, bv5, pa9, bv9⟩ K hK
          simp only [fr, Act.put, List.setIfInBounds_toArray, List.set_cons_zero, List.set_cons_succ, updO] at hK ⊢
          simp [Region.binds] at hd
          have g13 := p13 (by simp [hd])
          rw [if_pos (by rfl)]
          simp only [Oper.wpv]
          go_simp
          exact hK _ _ ⟨sr, sq, bA, bN, hb, p0, p1, p2, p3, p4, p6, p7, p8, p10, p11, p12, p13, p14, fun _ => rfl, p16, fsr, fsq, pa5, bv5, pa9, bv9⟩
        · rintro L T u hd hk hcl ⟨sr, sq, bA, bN, hb, p0, p1, p2, p3, p4, p6, p7, p8, p10, p11, p12, p13, p14, p15, p16, fsr, fsq, pa5, bv5, pa9, bv9⟩ K hK
          simp only [fr, Act.put, List.setIfInBounds_toArray, List.set_cons_zero, List.set_cons_succ, updO] at hK ⊢
          simp [Region.binds] at hd
          have g14 := p14 (by simp [hd])
          rw [if_pos (by rfl)]
          simp only [Oper.wpv]
          go_simp
          exact hK _ _ ⟨sr, sq, bA, bN, hb, p0, p1, p2, p3, p4, p6, p7, p8, p10, p11, p12, p13, p14, p15, fun _ => rfl, fsr, fsq, pa5, bv5, pa9, bv9⟩
      · rintro L T u hl ⟨sr, sq, bA, bN, hb, p0, p1, p2, p3, p4, p6, p7, p8, p10, p11, p12, p13, p14, p15, p16, fsr, fsq, pa5, bv5, pa9, bv9⟩
        simp only [fr, Act.put, List.setIfInBounds_toArray, List.set_cons_zero, List.set_cons_succ]
        have h5 := p15 (hl 15 (by decide))
        have h6 := p16 (hl 16 (by decide))
        have hu2 : Below Y.heap.size Y u := hT2 hu1 hb
        clear p0 p1 p2 p3 p4 p6 p7 p8 p10 p11 p12 p13 p14 p15 p16 fsr fsq pa5 bv5 pa9 bv9 HSb hb hu1
        rw [h5, h6]
        clear h5 h6
        obtain ⟨U2, eU2⟩ : ∃ X : World, X = u := ⟨_, rfl⟩
        subst eU2
        go_upto_region 9 with (fail)
        refine wp_region_inv (by kernel_rfl) [79, 80, 81, 82, 83, 84, 85, 86, 87, 78, 88, 89, 22, 23] (fun L T u => ∃ (sr : SV) (sq : SV) (bA : Nat), Below U2.heap.size U2 u ∧ (L 0 = true → T 79 = .agg #[.int .i64 1, .slice (some ⟨g0, 0, none⟩) 2 2, .int .i64 3]) ∧ (L 1 = true → T 80 = .slice a len cap) ∧ (L 2 = true → T 81 = .agg #[.slice sr.ia sr.il sr.ic, .slice sr.la sr.ll sr.lc, .slice sr.da sr.dl sr.dc, .slice sr.oa sr.ol sr.oc]) ∧ (L 3 = true → T 82 = .slice a1 len1 cap1) ∧ (L 4 = true → T 83 = .agg #[.slice sq.ia sq.il sq.ic, .slice sq.la sq.ll sq.lc, .slice sq.da sq.dl sq.dc, .slice sq.oa sq.ol sq.oc]) ∧ (L 6 = true → T 85 = .slice (some ⟨X2.heap.size + 1 + 1, 0, none⟩) 2 2) ∧ (L 7 = true → T 86 = .agg #[.int .i64 4, .int .i64 0, .int .i64 0, .int .i64 0, .bool false]) ∧ (L 8 = true → T 87 = .tuple #[.string ALL, .int .i64 0]) ∧ (L 9 = true → T 78 = .tuple #[.string ALL, .int .i64 0]) ∧ (L 10 = true → T 88 = .string ALL) ∧ (L 11 = true → T 89 = .int .i64 0) ∧ (L 12 = true → T 22 = .string ALL) ∧ (L 13 = true → T 23 = .int .i64 0) ∧ (L 2 = true → (IsStore u sr ∧ Gd (SV.data sr) 961 ∧ SV.data sr = D0)) ∧ (L 4 = true → (IsStore u sq ∧ Gd (SV.data sq) 961 ∧ SV.data sq = D1)) ∧ (L 5 = true → (T 84 = .slice (some ⟨bA, 0, none⟩) 2 2 ∧ U2.heap.size ≤ bA ∧ bA < u.heap.size)) ∧ (L 5 = true → IsStores u (some ⟨bA, 0, none⟩) 2 2 [sr, sq])) (by decide) (by kernel_rfl) (by kernel_rfl) ?_ ?_ ?_
        · exact ⟨default, default, 0, (Below.refl _ _).drew, nofun, nofun, nofun, nofun, nofun, nofun, nofun, nofun, nofun, nofun, nofun, nofun, nofun, nofun, nofun, nofun, nofun⟩
        · refine ⟨?_, ?_, ?_, ?_, ?_, ?_, ?_, ?_, ?_, ?_, ?_, ?_, ?_, ?_, trivial⟩
          · rintro L T u hd hk hcl ⟨sr, sq, bA, hb, p0, p1, p2, p3, p4, p6, p7, p8, p9, p10, p11, p12, p13, fsr, fsq, pa5, bv5⟩ K hK
            simp only [fr, Act.put, List.setIfInBounds_toArray, List.set_cons_zero, List.set_cons_succ, updO] at hK ⊢
            simp [Region.binds] at hd
            obtain ⟨x0, x1, x2, y0, y1, y2, y3, y4, n0⟩ := HX.out u (hT2 hu2 hb)
            rw [if_pos (by rfl)]
            simp only [Oper.wpv]
            go_simp
            exact hK _ _ ⟨sr, sq, bA, hb, fun _ => rfl, p1, p2, p3, p4, p6, p7, p8, p9, p10, p11, p12, p13, fsr, fsq, pa5, bv5⟩
          · rintro L T u hd hk hcl ⟨sr, sq, bA, hb, p0, p1, p2, p3, p4, p6, p7, p8, p9, p10, p11, p12, p13, fsr, fsq, pa5, bv5⟩ K hK
            simp only [fr, Act.put, List.setIfInBounds_toArray, List.set_cons_zero, List.set_cons_succ, updO] at hK ⊢
            simp [Region.binds] at hd
            rw [if_pos (by rfl)]
            simp only [Oper.wpv]
            go_simp
            exact hK _ _ ⟨sr, sq, bA, hb, p0, fun _ => rfl, p2, p3, p4, p6, p7, p8, p9, p10, p11, p12, p13, fsr, fsq, pa5, bv5⟩
          · rintro L T u hd hk hcl ⟨sr, sq, bA, hb, p0, p1, p2, p3, p4, p6, p7, p8, p9, p10, p11, p12, p13, fsr, fsq, pa5, bv5⟩ K hK
            simp only [fr, Act.put, List.setIfInBounds_toArray, List.set_cons_zero, List.set_cons_succ, updO] at hK ⊢
            simp [Region.binds] at hd
            have g1 := p1 (by simp [hd])
            have k5 := hcl 5 _ rfl
            simp [Region.binds] at k5
            have k8 := hcl 8 _ rfl
            simp [Region.binds] at k8
            have k9 := hcl 9 _ rfl
            simp [Region.binds] at k9
            have k10 := hcl 10 _ rfl
            simp [Region.binds] at k10
            have k11 := hcl 11 _ rfl
            simp [Region.binds] at k11
            have k12 := hcl 12 _ rfl
            simp [Region.binds] at k12
            have k13 := hcl 13 _ rfl
            simp [Region.binds] at k13
            rw [if_pos (by rfl)]
            simp only [Oper.wpv]
            go_simp
            refine (KR0.out u (hT2 hu2 hb)).mono ?_
            rintro e u1 ⟨r9, rfl, hO, hGd, hMd, hg⟩
            exact hK _ _ ⟨r9, sq, bA, hT2 hb hg, p0, p1, fun _ => rfl, p3, p4, p6, p7, fun h => absurd (show L 8 = true from h) (by intro hh; have a8 := k8 hh; have a5 := k5 (by simp [a8]); simp [hk] at a5), fun h => absurd (show L 9 = true from h) (by intro hh; have a9 := k9 hh; have a8 := k8 (by simp [a9]); have a5 := k5 (by simp [a8]); simp [hk] at a5), fun h => absurd (show L 10 = true from h) (by intro hh; have a10 := k10 hh; have a9 := k9 (by simp [a10]); have a8 := k8 (by simp [a9]); have a5 := k5 (by simp [a8]); simp [hk] at a5), fun h => absurd (show L 11 = true from h) (by intro hh; have a11 := k11 hh; have a9 := k9 (by simp [a11]); have a8 := k8 (by simp [a9]); have a5 := k5 (by simp [a8]); simp [hk] at a5), fun h => absurd (show L 12 = true from h) (by intro hh; have a12 := k12 hh; have a10 := k10 (by simp [a12]); have a9 := k9 (by simp [a10]); have a8 := k8 (by simp [a9]); have a5 := k5 (by simp [a8]); simp [hk] at a5), fun h => absurd (show L 13 = true from h) (by intro hh; have a13 := k13 hh; have a11 := k11 (by simp [a13]); have a9 := k9 (by simp [a11]); have a8 := k8 (by simp [a9]); have a5 := k5 (by simp [a8]); simp [hk] at a5), fun _ => ⟨hO.isStore, hGd, hMd⟩, fun h0 => ⟨((fsq h0)).1.below hg, ((fsq h0)).2⟩, fun h => absurd (show L 5 = true from h) (by intro hh; have a5 := k5 hh; simp [hk] at a5), fun h => absurd (show L 5 = true from h) (by intro hh; have a5 := k5 hh; simp [hk] at a5)⟩
          · rintro L T u hd hk hcl ⟨sr, sq, bA, hb, p0, p1, p2, p3, p4, p6, p7, p8, p9, p10, p11, p12, p13, fsr, fsq, pa5, bv5⟩ K hK
            simp only [fr, Act.put, List.setIfInBounds_toArray, List.set_cons_zero, List.set_cons_succ, updO] at hK ⊢
            simp [Region.binds] at hd
            rw [if_pos (by rfl)]
            simp only [Oper.wpv]
            go_simp
            exact hK _ _ ⟨sr, sq, bA, hb, p0, p1, p2, fun _ => rfl, p4, p6, p7, p8, p9, p10, p11, p12, p13, fsr, fsq, pa5, bv5⟩
          · rintro L T u hd hk hcl ⟨sr, sq, bA, hb, p0, p1, p2, p3, p4, p6, p7, p8, p9, p10, p11, p12, p13, fsr, fsq, pa5, bv5⟩ K hK
            simp only [fr, Act.put, List.setIfInBounds_toArray, List.set_cons_zero, List.set_cons_succ, updO] at hK ⊢
            simp [Region.binds] at hd
            have g3 := p3 (by simp [hd])
            have k5 := hcl 5 _ rfl
            simp [Region.binds] at k5
            have k8 := hcl 8 _ rfl
            simp [Region.binds] at k8
            have k9 := hcl 9 _ rfl
            simp [Region.binds] at k9
            have k10 := hcl 10 _ rfl
            simp [Region.binds] at k10
            have k11 := hcl 11 _ rfl
            simp [Region.binds] at k11
            have k12 := hcl 12 _ rfl
            simp [Region.binds] at k12
            have k13 := hcl 13 _ rfl
            simp [Region.binds] at k13
            rw [if_pos (by rfl)]
            simp only [Oper.wpv]
            go_simp
            refine (KR1.out u (hT2 hu2 hb)).mono ?_
            rintro e u1 ⟨r9, rfl, hO, hGd, hMd, hg⟩
            exact hK _ _ ⟨sr, r9, bA, hT2 hb hg, p0, p1, p2, p3, fun _ => rfl, p6, p7, fun h => absurd (show L 8 = true from h) (by intro hh; have a8 := k8 hh; have a5 := k5 (by simp [a8]); simp [hk] at a5), fun h => absurd (show L 9 = true from h) (by intro hh; have a9 := k9 hh; have a8 := k8 (by simp [a9]); have a5 := k5 (by simp [a8]); simp [hk] at a5), fun h => absurd (show L 10 = true from h) (by intro hh; have a10 := k10 hh; have a9 := k9 (by simp [a10]); have a8 := k8 (by simp [a9]); have a5 := k5 (by simp [a8]); simp [hk] at a5), fun h => absurd (show L 11 = true from h) (by intro hh; have a11 := k11 hh; have a9 := k9 (by simp [a11]); have a8 := k8 (by simp [a9]); have a5 := k5 (by simp [a8]); simp [hk] at a5), fun h => absurd (show L 12 = true from h) (by intro hh; have a12 := k12 hh; have a10 := k10 (by simp [a12]); have a9 := k9 (by simp [a10]); have a8 := k8 (by simp [a9]); have a5 := k5 (by simp [a8]); simp [hk] at a5), fun h => absurd (show L 13 = true from h) (by intro hh; have a13 := k13 hh; have a11 := k11 (by simp [a13]); have a9 := k9 (by simp [a11]); have a8 := k8 (by simp [a9]); have a5 := k5 (by simp [a8]); simp [hk] at a5), fun h0 => ⟨((fsr h0)).1.below hg, ((fsr h0)).2⟩, fun _ => ⟨hO.isStore, hGd, hMd⟩, fun h => absurd (show L 5 = true from h) (by intro hh; have a5 := k5 hh; simp [hk] at a5), fun h => absurd (show L 5 = true from h) (by intro hh; have a5 := k5 hh; simp [hk] at a5)⟩
          · rintro L T u hd hk hcl ⟨sr, sq, bA, hb, p0, p1, p2, p3, p4, p6, p7, p8, p9, p10, p11, p12, p13, fsr, fsq, pa5, bv5⟩ K hK
            simp only [fr, Act.put, List.setIfInBounds_toArray, List.set_cons_zero, List.set_cons_succ, updO] at hK ⊢
            simp [Region.binds] at hd
            have g2 := p2 (by simp [hd])
            have g4 := p4 (by simp [hd])
            have k8 := hcl 8 _ rfl
            simp [Region.binds] at k8
            have k9 := hcl 9 _ rfl
            simp [Region.binds] at k9
            have k10 := hcl 10 _ rfl
            simp [Region.binds] at k10
            have k11 := hcl 11 _ rfl
            simp [Region.binds] at k11
            have k12 := hcl 12 _ rfl
            simp [Region.binds] at k12
            have k13 := hcl 13 _ rfl
            simp [Region.binds] at k13
            have hg : Below u.heap.size u (u.alloc (.cells #[.slice sr.ia sr.il sr.ic, .slice sr.la sr.ll sr.lc, .slice sr.da sr.dl sr.dc, .slice sr.oa sr.ol sr.oc, .slice sq.ia sq.il sq.ic, .slice sq.la sq.ll sq.lc, .slice sq.da sq.dl sq.dc, .slice sq.oa sq.ol sq.oc] 55)) := (Below.refl _ _).alloc (Nat.le_refl _) _
            rw [if_pos (by rfl)]
            simp only [Oper.wpv]
            go_simp
            exact hK _ _ ⟨sr, sq, u.heap.size, (hT2 hb hg), p0, p1, p2, p3, p4, p6, p7, fun h => absurd (show L 8 = true from h) (by intro hh; have a8 := k8 hh; simp [hk] at a8), fun h => absurd (show L 9 = true from h) (by intro hh; have a9 := k9 hh; have a8 := k8 (by simp [a9]); simp [hk] at a8), fun h => absurd (show L 10 = true from h) (by intro hh; have a10 := k10 hh; have a9 := k9 (by simp [a10]); have a8 := k8 (by simp [a9]); simp [hk] at a8), fun h => absurd (show L 11 = true from h) (by intro hh; have a11 := k11 hh; have a9 := k9 (by simp [a11]); have a8 := k8 (by simp [a9]); simp [hk] at a8), fun h => absurd (show L 12 = true from h) (by intro hh; have a12 := k12 hh; have a10 := k10 (by simp [a12]); have a9 := k9 (by simp [a10]); have a8 := k8 (by simp [a9]); simp [hk] at a8), fun h => absurd (show L 13 = true from h) (by intro hh; have a13 := k13 hh; have a11 := k11 (by simp [a13]); have a9 := k9 (by simp [a11]); have a8 := k8 (by simp [a9]); simp [hk] at a8), fun h0 => ⟨((fsr h0)).1.below hg, ((fsr h0)).2⟩, fun h0 => ⟨((fsq h0)).1.below hg, ((fsq h0)).2⟩, fun _ => ⟨rfl, hb.size, by simp⟩, fun _ => two_of (r := sr) (q := sq) (fsr (by simp [hd])).1 (fsr (by simp [hd])).2.1.wf (fsq (by simp [hd])).1 (fsq (by simp [hd])).2.1.wf⟩
          · rintro L T u hd hk hcl ⟨sr, sq, bA, hb, p0, p1, p2, p3, p4, p6, p7, p8, p9, p10, p11, p12, p13, fsr, fsq, pa5, bv5⟩ K hK
            simp only [fr, Act.put, List.setIfInBounds_toArray, List.set_cons_zero, List.set_cons_succ, updO] at hK ⊢
            simp [Region.binds] at hd
            rw [if_pos (by rfl)]
            simp only [Oper.wpv]
            go_simp
            exact hK _ _ ⟨sr, sq, bA, hb, p0, p1, p2, p3, p4, fun _ => rfl, p7, p8, p9, p10, p11, p12, p13, fsr, fsq, pa5, bv5⟩
          · rintro L T u hd hk hcl ⟨sr, sq, bA, hb, p0, p1, p2, p3, p4, p6, p7, p8, p9, p10, p11, p12, p13, fsr, fsq, pa5, bv5⟩ K hK
            simp only [fr, Act.put, List.setIfInBounds_toArray, List.set_cons_zero, List.set_cons_succ, updO] at hK ⊢
            simp [Region.binds] at hd
            rw [if_pos (by rfl)]
            simp only [Oper.wpv]
            go_simp
            exact hK _ _ ⟨sr, sq, bA, hb, p0, p1, p2, p3, p4, p6, fun _ => rfl, p8, p9, p10, p11, p12, p13, fsr, fsq, pa5, bv5⟩
          · rintro L T u hd hk hcl ⟨sr, sq, bA, hb, p0, p1, p2, p3, p4, p6, p7, p8, p9, p10, p11, p12, p13, fsr, fsq, pa5, bv5⟩ K hK
            simp only [fr, Act.put, List.setIfInBounds_toArray, List.set_cons_zero, List.set_cons_succ, updO] at hK ⊢
            simp [Region.binds] at hd
            have g0 := p0 (by simp [hd])
            have g5 := pa5 (by simp [hd])
            have g6 := p6 (by simp [hd])
            have g7 := p7 (by simp [hd])
            have kk0 := hcl 5 _ rfl
            simp [Region.binds] at kk0
            have kk := kk0 (by simp [hd])
            rw [if_pos (by rfl)]
            simp only [Oper.wpv]
            go_simp
            refine (HSc.out sr sq bA u (hT2 hu2 hb) (bv5 (by simp [hd])) (fsr (by simp [kk])).2.1.ok.ok (fsq (by simp [kk])).2.1.ok.ok (fsr (by simp [kk])).2.2 (fsq (by simp [kk])).2.2).mono ?_
            rintro e u1 ⟨rfl, hg⟩
            exact hK _ _ ⟨sr, sq, bA, hT2 hb hg, p0, p1, p2, p3, p4, p6, p7, fun _ => rfl, p9, p10, p11, p12, p13, fun h0 => ⟨((fsr h0)).1.below hg, ((fsr h0)).2⟩, fun h0 => ⟨((fsq h0)).1.below hg, ((fsq h0)).2⟩, fun h0 => ⟨(pa5 h0).1, (pa5 h0).2.1, Nat.lt_of_lt_of_le (pa5 h0).2.2 hg.size⟩, fun h0 => (bv5 h0).below hg⟩
          · rintro L T u hd hk hcl ⟨sr, sq, bA, hb, p0, p1, p2, p3, p4, p6, p7, p8, p9, p10, p11, p12, p13, fsr, fsq, pa5, bv5⟩ K hK
            simp only [fr, Act.put, List.setIfInBounds_toArray, List.set_cons_zero, List.set_cons_succ, updO] at hK ⊢
            simp [Region.binds] at hd
            have g8 := p8 (by simp [hd])
            rw [if_pos (by rfl)]
            simp only [Oper.wpv]
            go_simp
            exact hK _ _ ⟨sr, sq, bA, hb, p0, p1, p2, p3, p4, p6, p7, p8, fun _ => rfl, p10, p11, p12, p13, fsr, fsq, pa5, bv5⟩
          · rintro L T u hd hk hcl ⟨sr, sq, bA, hb, p0, p1, p2, p3, p4, p6, p7, p8, p9, p10, p11, p12, p13, fsr, fsq, pa5, bv5⟩ K hK
            simp only [fr, Act.put, List.setIfInBounds_toArray, List.set_cons_zero, List.set_cons_succ, updO] at hK ⊢
            simp [Region.binds] at hd
            have g9 := p9 (by simp [hd])
            rw [if_pos (by rfl)]
            simp only [Oper.wpv]
            go_simp
            exact hK _ _ ⟨sr, sq, bA, hb, p0, p1, p2, p3, p4, p6, p7, p8, p9, fun _ => rfl, p11, p12, p13, fsr, fsq, pa5, bv5⟩
          · rintro L T u hd hk hcl ⟨sr, sq, bA, hb, p0, p1, p2, p3, p4, p6, p7, p8, p9, p10, p11, p12, p13, fsr, fsq, pa5, bv5⟩ K hK
            simp only [fr, Act.put, List.setIfInBounds_toArray, List.set_cons_zero, List.set_cons_succ, updO] at hK ⊢
            simp [Region.binds] at hd
            have g9 := p9 (by simp [hd])
            rw [if_pos (by rfl)]
            simp only [Oper.wpv]
            go_simp
            exact hK _ _ ⟨sr, sq, bA, hb, p0, p1, p2, p3, p4, p6, p7, p8, p9, p10, fun _ => rfl, p12, p13, fsr, fsq, pa5, bv5⟩
          · rintro L T u hd hk hcl ⟨sr, sq, bA, hb, p0, p1, p2, p3, p4, p6, p7, p8, p9, p10, p11, p12, p13, fsr, fsq, pa5, bv5⟩ K hK
            simp only [fr, Act.put, List.setIfInBounds_toArray, List.set_cons_zero, List.set_cons_succ, updO] at hK ⊢
            simp [Region.binds] at hd
            have g10 := p10 (by simp [hd])
            rw [if_pos (by rfl)]
            simp only [Oper.wpv]
            go_simp
            exact hK _ _ ⟨sr, sq, bA, hb, p0, p1, p2, p3, p4, p6, p7, p8, p9, p10, p11, fun _ => rfl, p13, fsr, fsq, pa5, bv5⟩
          · rintro L T u hd hk hcl ⟨sr, sq, bA, hb, p0, p1, p2, p3, p4, p6, p7, p8, p9, p10, p11, p12, p13, fsr, fsq, pa5, bv5⟩ K hK
            simp only [fr, Act.put, List.setIfInBounds_toArray, List.set_cons_zero, List.set_cons_succ, updO] at hK ⊢
            simp [Region.binds] at hd
            have g11 := p11 (by simp [hd])
            rw [if_pos (by rfl)]
            simp only [Oper.wpv]
            go_simp
            exact hK _ _ ⟨sr, sq, bA, hb, p0, p1, p2, p3, p4, p6, p7, p8, p9, p10, p11, p12, fun _ => rfl, fsr, fsq, pa5, bv5⟩
        · rintro L T u hl ⟨sr, sq, bA, hb, p0, p1, p2, p3, p4, p6, p7, p8, p9, p10, p11, p12, p13, fsr, fsq, pa5, bv5⟩
          simp only [fr, Act.put, List.setIfInBounds_toArray, List.set_cons_zero, List.set_cons_succ]
          have h5 := p12 (hl 12 (by decide))
          have h6 := p13 (hl 13 (by decide))
          have hu3 : Below Y.heap.size Y u := hT2 hu2 hb
          have hwu := (KV.out u hu3).2.2.2.2.2.2
          clear p0 p1 p2 p3 p4 p6 p7 p8 p9 p10 p11 p12 p13 fsr fsq pa5 bv5 HSc hb hu2 HX KV KR0 KR1 KR2
          rw [h5, h6]
          clear h5 h6
  
          go_wp2
          go_ret
          refine ⟨ret_bool ?_, hwu⟩
          rw [Go.ByteArray.toList_eq]
          decide
  · go_upto_region 3 with (go_at_call 13; refine (hPK _).mono ?_; rintro e u ⟨rfl, hu⟩; rw [hu]; clear hu)
    go_upto_region 6 with (fail)
    clear hPK
    obtain ⟨X2, eX2⟩ : ∃ X : World, X = (X1.alloc (.cells #[.int .i64 1, .int .i64 2, .int .i64 4] 3)).alloc (.cells #[.int .i64 4, .int .i64 0, .int .i64 0, .int .i64 0, .bool false] 25) := ⟨_, rfl⟩
    have oX : ObAt X2 (X1.heap.size + 1) #[.int .i64 4, .int .i64 0, .int .i64 0, .int .i64 0, .bool false] 25 := by rw [eX2]; have h8 := ObAt.new (X1.alloc (.cells #[.int .i64 1, .int .i64 2, .int .i64 4] 3)) #[.int .i64 4, .int .i64 0, .int .i64 0, .int .i64 0, .bool false] 25; simpa using h8
    have bX2 : Below X1.heap.size X1 X2 := by rw [eX2]; exact ((Below.refl _ _).alloc (Nat.le_refl _) _).alloc (by simp) _
    rw [← eX2]
    clear eX2
    go_upto_region 7 with (fail)
    obtain ⟨Y, eY⟩ : ∃ X : World, X = ((X2.alloc (.cells #[.int .i64 0, .int .i64 1, .bool false, .bool false] 48)).alloc (.cells #[.int .i64 0, .int .i64 2, .bool true, .bool false] 48)).alloc (.cells #[.slice (some ⟨X2.heap.size, 0, none⟩) 1 1, .slice (some ⟨X2.heap.size + 1, 0, none⟩) 1 1] 49) := ⟨_, rfl⟩
    have bA1 : Below X2.heap.size X2 (X2.alloc (.cells #[.int .i64 0, .int .i64 1, .bool false, .bool false] 48)) := (Below.refl _ _).alloc (Nat.le_refl _) _
    have oA : ObAt Y X2.heap.size #[.int .i64 0, .int .i64 1, .bool false, .bool false] 48 := by rw [eY]; exact ((ObAt.new X2 _ _).below ((Below.refl _ _).alloc (Nat.le_refl _) _)).below ((Below.refl _ _).alloc (Nat.le_refl _) _)
    have oB : ObAt Y (X2.heap.size + 1) #[.int .i64 0, .int .i64 2, .bool true, .bool false] 48 := by
      rw [eY]
      have h8 := (ObAt.new (X2.alloc (.cells #[.int .i64 0, .int .i64 1, .bool false, .bool false] 48)) #[.int .i64 0, .int .i64 2, .bool true, .bool false] 48).below ((Below.refl _ _).alloc (Nat.le_refl _) (.cells #[.slice (some ⟨X2.heap.size, 0, none⟩) 1 1, .slice (some ⟨X2.heap.size + 1, 0, none⟩) 1 1] 49))
      simpa using h8
    have oN : ObAt Y (X2.heap.size + 1 + 1) #[.slice (some ⟨X2.heap.size, 0, none⟩) 1 1, .slice (some ⟨X2.heap.size + 1, 0, none⟩) 1 1] 49 := by
      rw [eY]
      have h8 := ObAt.new ((X2.alloc (.cells #[.int .i64 0, .int .i64 1, .bool false, .bool false] 48)).alloc (.cells #[.int .i64 0, .int .i64 2, .bool true, .bool false] 48)) #[.slice (some ⟨X2.heap.size, 0, none⟩) 1 1, .slice (some ⟨X2.heap.size + 1, 0, none⟩) 1 1] 49
      simpa using h8
    have bY : Below X2.heap.size X2 Y := by rw [eY]; exact (((Below.refl _ _).alloc (Nat.le_refl _) _).alloc (by simp) _).alloc (by simp; omega) _
    rw [← eY]
    clear eY bA1
    have bY1 : Below X1.heap.size X1 Y := bX2.trans (bY.mono bX2.size)
    have bwY : Below w.heap.size w Y := bwX.trans (bY1.mono bwX.size)
    have KV : Hid (∀ U, Below Y.heap.size Y U → ObAt U w1.heap.size #[.int .i64 1, .slice (some ⟨g0, 0, none⟩) 2 2, .int .i64 3] 32 ∧ ObAt U (X1.heap.size + 1) #[.int .i64 4, .int .i64 0, .int .i64 0, .int .i64 0, .bool false] 25 ∧ ObAt U (X2.heap.size + 1 + 1) #[.slice (some ⟨X2.heap.size, 0, none⟩) 1 1, .slice (some ⟨X2.heap.size + 1, 0, none⟩) 1 1] 49 ∧ IsLabs U (some ⟨g0, 0, none⟩) 2 2 LS2 ∧ IsNotes U (some ⟨X2.heap.size, 0, none⟩) 1 1 [nA] ∧ IsNotes U (some ⟨X2.heap.size + 1, 0, none⟩) 1 1 [nB] ∧ Below w.heap.size w U) := fun U hU =>
      ⟨(oC.below bY1).below hU, (oX.below bY).below hU, oN.below hU, (hlX.below bY1).below hU, St.IsRow.below (note_of Y _ nA oA) hU, St.IsRow.below (note_of Y _ nB oB) hU, bwY.trans (hU.mono bwY.size)⟩
    have KT : Hid (∀ U, Below Y.heap.size Y U → ∀ Z, Below U.heap.size U Z → Lib.TabIs Tryd.prog Z "internal/strconv.uint64pow10" .u64 Lib.pow10Tab) := fun U hU Z hZ => HT.out Z ((KV.out U hU).2.2.2.2.2.2.trans (hZ.mono (KV.out U hU).2.2.2.2.2.2.size))
    have KR : Hid (∀ U, Below Y.heap.size Y U → ∀ (a : Option Addr) (len cap : Nat) (rs : List St.RV), IsRaws w a len cap rs → Calls Tryd.prog 16 #[.slice a len cap, .int .i64 20] U fun e w' => ∃ r : SV, e = .returned r.val ∧ OwnStore w' U.heap.size r ∧ Gd r.data 961 ∧ r.data = mkAll rs 20 ∧ Below U.heap.size U w') := fun U hU a len cap rs h => St.store_data a len cap rs 20 U (h.below ((KV.out U hU).2.2.2.2.2.2)) (by omega)
    have KR0 : Hid (∀ U, Below Y.heap.size Y U → Calls Tryd.prog 16 #[.slice a len cap, .int .i64 20] U fun e w' => ∃ r : SV, e = .returned r.val ∧ OwnStore w' U.heap.size r ∧ Gd r.data 961 ∧ r.data = mkAll rs 20 ∧ Below U.heap.size U w') := fun U hU => KR.out U hU a len cap rs hr
    have KR1 : Hid (∀ U, Below Y.heap.size Y U → Calls Tryd.prog 16 #[.slice a1 len1 cap1, .int .i64 20] U fun e w' => ∃ r : SV, e = .returned r.val ∧ OwnStore w' U.heap.size r ∧ Gd r.data 961 ∧ r.data = mkAll rs1 20 ∧ Below U.heap.size U w') := fun U hU => KR.out U hU a1 len1 cap1 rs1 hr1
    have KR2 : Hid (∀ U, Below Y.heap.size Y U → Calls Tryd.prog 16 #[.slice a2 len2 cap2, .int .i64 20] U fun e w' => ∃ r : SV, e = .returned r.val ∧ OwnStore w' U.heap.size r ∧ Gd r.data 961 ∧ r.data = mkAll rs2 20 ∧ Below U.heap.size U w') := fun U hU => KR.out U hU a2 len2 cap2 rs2 hr2
    obtain ⟨D0, eD0⟩ : ∃ D, D = mkAll rs 20 := ⟨_, rfl⟩
    obtain ⟨D1, eD1⟩ : ∃ D, D = mkAll rs1 20 := ⟨_, rfl⟩
    obtain ⟨D2, eD2⟩ : ∃ D, D = mkAll rs2 20 := ⟨_, rfl⟩
    rw [← eD0] at KR0
    rw [← eD1] at KR1
    rw [← eD2] at KR2
    clear eD0 eD1 eD2 KR oC oX oN oA oB hlX hr hr1 hr2
    obtain ⟨OUT, eOUT⟩ : ∃ x, x = showTxt LS2 0 [D0.svd, D1.svd] [⟨some ⟨X2.heap.size, 0, none⟩, 1, 1, [nA]⟩, ⟨some ⟨X2.heap.size + 1, 0, none⟩, 1, 1, [nB]⟩] ⟨4, 0, 0, 0, false⟩ := ⟨_, rfl⟩
    have HSa : Hid (∀ (r q : SV) (sb : Nat) (U : World), Below Y.heap.size Y U → IsStores U (some ⟨sb, 0, none⟩) 2 2 [r, q] → storeOK r = true → storeOK q = true → r.data = D0 → q.data = D1 → Calls Tryd.prog 11 #[.agg #[.int .i64 1, .slice (some ⟨g0, 0, none⟩) 2 2, .int .i64 3], .int .i64 0, .slice (some ⟨sb, 0, none⟩) 2 2, .slice (some ⟨X2.heap.size + 1 + 1, 0, none⟩) 2 2, .agg #[.int .i64 4, .int .i64 0, .int .i64 0, .int .i64 0, .bool false]] U fun e w' => e = .returned (.tuple #[.string OUT, .int .i64 0]) ∧ Below U.heap.size U w') := fun r q sb U hU hS h1 h2 h3 h4 => by
      obtain ⟨-, -, oN, hL, hA, hB, -⟩ := KV.out U hU
      rw [eOUT]
      exact show_two g0 0 (Or.inl rfl) r q D0 D1 ⟨some ⟨X2.heap.size, 0, none⟩, 1, 1, [nA]⟩ ⟨some ⟨X2.heap.size + 1, 0, none⟩, 1, 1, [nB]⟩ sb (X2.heap.size + 1 + 1) 4 0 0 0 U hL hS (nls_of U _ _ _ _ _ oN rfl rfl hA hB) h1 h2 h3 h4 rfl (Or.inl rfl) (by omega) (KT.out U hU)
    have HSb : Hid (∀ (r q : SV) (sb nb : Nat) (U : World), Below Y.heap.size Y U → IsStores U (some ⟨sb, 0, none⟩) 2 2 [r, q] → BoxN U nb 2 [.slice (some ⟨X2.heap.size, 0, none⟩) 1 1, .slice none 0 0] → storeOK r = true → storeOK q = true → r.data = D0 → q.data = D2 → Calls Tryd.prog 11 #[.agg #[.int .i64 1, .slice (some ⟨g0, 0, none⟩) 2 2, .int .i64 3], .int .i64 0, .slice (some ⟨sb, 0, none⟩) 2 2, .slice (some ⟨nb, 0, none⟩) 2 2, .agg #[.int .i64 4, .int .i64 0, .int .i64 0, .int .i64 0, .bool false]] U fun e w' => e = .returned (.tuple #[.string OUT, .int .i64 0]) ∧ Below U.heap.size U w') := fun r q sb nb U hU hS hN h1 h2 h3 h4 => by
      obtain ⟨-, -, -, hL, hA, hB, -⟩ := KV.out U hU
      rw [eOUT, txt_hidden (b1 := some ⟨X2.heap.size, 0, none⟩) (b2 := none) (o := D2.svd) (m1 := 1) (m2 := 0)]
      refine show_two g0 0 (Or.inl rfl) r q D0 D2 ⟨some ⟨X2.heap.size, 0, none⟩, 1, 1, [nA]⟩ ⟨none, 0, 0, []⟩ sb nb 4 0 0 0 U hL hS ?_ h1 h2 h3 h4 rfl (Or.inr rfl) (by omega) (KT.out U hU)
      refine ⟨⟨rfl, Nat.le_refl _, by unfold maxLen; omega, fun e => by simp at e, fun _ => ⟨nb, 0, rfl, hN.lt, fun i hi j hj => ?_⟩⟩, fun i hi => ?_⟩
      · obtain rfl : j = 0 := by omega
        rcases (by omega : i = 0 ∨ i = 1) with rfl | rfl
        · exact (hN.c 0 (by decide)).1
        · exact (hN.c 1 (by decide)).1
      · rcases (by omega : i = 0 ∨ i = 1) with rfl | rfl
        · exact hA
        · exact St.isRow_nil _ _ _
    have HSc : Hid (∀ (r q : SV) (sb : Nat) (U : World), Below Y.heap.size Y U → IsStores U (some ⟨sb, 0, none⟩) 2 2 [r, q] → storeOK r = true → storeOK q = true → r.data = D0 → q.data = D1 → Calls Tryd.prog 11 #[.agg #[.int .i64 1, .slice (some ⟨g0, 0, none⟩) 2 2, .int .i64 3], .int .i64 1, .slice (some ⟨sb, 0, none⟩) 2 2, .slice (some ⟨X2.heap.size + 1 + 1, 0, none⟩) 2 2, .agg #[.int .i64 4, .int .i64 0, .int .i64 0, .int .i64 0, .bool false]] U fun e w' => e = .returned (.tuple #[.string ALL, .int .i64 0]) ∧ Below U.heap.size U w') := fun r q sb U hU hS h1 h2 h3 h4 => by
      obtain ⟨-, -, oN, hL, hA, hB, -⟩ := KV.out U hU
      have h8 := show_two g0 1 (Or.inr rfl) r q D0 D1 ⟨some ⟨X2.heap.size, 0, none⟩, 1, 1, [nA]⟩ ⟨some ⟨X2.heap.size + 1, 0, none⟩, 1, 1, [nB]⟩ sb (X2.heap.size + 1 + 1) 4 0 0 0 U hL hS (nls_of U _ _ _ _ _ oN rfl rfl hA hB) h1 h2 h3 h4 rfl (Or.inl rfl) (by omega) (KT.out U hU)
      rw [txt_all] at h8
      exact h8
    clear eOUT KT
    have HX : Hid (∀ U, Below Y.heap.size Y U → U.cell? ⟨w1.heap.size, 0, none⟩ = some (.int .i64 1) ∧ U.cell? ⟨w1.heap.size, 1, none⟩ = some (.slice (some ⟨g0, 0, none⟩) 2 2) ∧ U.cell? ⟨w1.heap.size, 2, none⟩ = some (.int .i64 3) ∧ U.cell? ⟨X1.heap.size + 1, 0, none⟩ = some (.int .i64 4) ∧ U.cell? ⟨X1.heap.size + 1, 1, none⟩ = some (.int .i64 0) ∧ U.cell? ⟨X1.heap.size + 1, 2, none⟩ = some (.int .i64 0) ∧ U.cell? ⟨X1.heap.size + 1, 3, none⟩ = some (.int .i64 0) ∧ U.cell? ⟨X1.heap.size + 1, 4, none⟩ = some (.bool false) ∧ U.cell? ⟨X2.heap.size + 1 + 1, 0, none⟩ = some (.slice (some ⟨X2.heap.size, 0, none⟩) 1 1)) := fun U hU => by
      obtain ⟨oC, oX, oN, -⟩ := KV.out U hU
      exact ⟨oC.cell 0, oC.cell 1, oC.cell 2, oX.cell 0, oX.cell 1, oX.cell 2, oX.cell 3, oX.cell 4, oN.cell 0⟩
    have hY0 : Below Y.heap.size Y Y := Below.refl _ _
    refine wp_region_inv (by kernel_rfl) [52, 53, 54, 55, 56, 57, 58, 59, 60, 51, 61, 62, 18, 19] (fun L T u => ∃ (sr : SV) (sq : SV) (bA : Nat), Below Y.heap.size Y u ∧ (L 0 = true → T 52 = .agg #[.int .i64 1, .slice (some ⟨g0, 0, none⟩) 2 2, .int .i64 3]) ∧ (L 1 = true → T 53 = .slice a len cap) ∧ (L 2 = true → T 54 = .agg #[.slice sr.ia sr.il sr.ic, .slice sr.la sr.ll sr.lc, .slice sr.da sr.dl sr.dc, .slice sr.oa sr.ol sr.oc]) ∧ (L 3 = true → T 55 = .slice a1 len1 cap1) ∧ (L 4 = true → T 56 = .agg #[.slice sq.ia sq.il sq.ic, .slice sq.la sq.ll sq.lc, .slice sq.da sq.dl sq.dc, .slice sq.oa sq.ol sq.oc]) ∧ (L 6 = true → T 58 = .slice (some ⟨X2.heap.size + 1 + 1, 0, none⟩) 2 2) ∧ (L 7 = true → T 59 = .agg #[.int .i64 4, .int .i64 0, .int .i64 0, .int .i64 0, .bool false]) ∧ (L 8 = true → T 60 = .tuple #[.string OUT, .int .i64 0]) ∧ (L 9 = true → T 51 = .tuple #[.string OUT, .int .i64 0]) ∧ (L 10 = true → T 61 = .string OUT) ∧ (L 11 = true → T 62 = .int .i64 0) ∧ (L 12 = true → T 18 = .string OUT) ∧ (L 13 = true → T 19 = .int .i64 0) ∧ (L 2 = true → (IsStore u sr ∧ Gd (SV.data sr) 961 ∧ SV.data sr = D0)) ∧ (L 4 = true → (IsStore u sq ∧ Gd (SV.data sq) 961 ∧ SV.data sq = D1)) ∧ (L 5 = true → (T 57 = .slice (some ⟨bA, 0, none⟩) 2 2 ∧ Y.heap.size ≤ bA ∧ bA < u.heap.size)) ∧ (L 5 = true → IsStores u (some ⟨bA, 0, none⟩) 2 2 [sr, sq])) (by decide) (by kernel_rfl) (by kernel_rfl) ?_ ?_ ?_
    · exact ⟨default, default, 0, (Below.refl _ _).drew, nofun, nofun, nofun, nofun, nofun, nofun, nofun, nofun, nofun, nofun, nofun, nofun, nofun, nofun, nofun, nofun, nofun⟩
    · refine ⟨?_, ?_, ?_, ?_, ?_, ?_, ?_, ?_, ?_, ?_, ?_, ?_, ?_, ?_, trivial⟩
      · rintro L T u hd hk hcl ⟨sr, sq, bA, hb, p0, p1, p2, p3, p4, p6, p7, p8, p9, p10, p11, p12, p13, fsr, fsq, pa5, bv5⟩ K hK
        simp only [fr, Act.put, List.setIfInBounds_toArray, List.set_cons_zero, List.set_cons_succ, updO] at hK ⊢
        simp [Region.binds] at hd
        obtain ⟨x0, x1, x2, y0, y1, y2, y3, y4, n0⟩ := HX.out u (hb)
        rw [if_pos (by rfl)]
        simp only [Oper.wpv]
        go_simp
        exact hK _ _ ⟨sr, sq, bA, hb, fun _ => rfl, p1, p2, p3, p4, p6, p7, p8, p9, p10, p11, p12, p13, fsr, fsq, pa5, bv5⟩
      · rintro L T u hd hk hcl ⟨sr, sq, bA, hb, p0, p1, p2, p3, p4, p6, p7, p8, p9, p10, p11, p12, p13, fsr, fsq, pa5, bv5⟩ K hK
        simp only [fr, Act.put, List.setIfInBounds_toArray, List.set_cons_zero, List.set_cons_succ, updO] at hK ⊢
        simp [Region.binds] at hd
        rw [if_pos (by rfl)]
        simp only [Oper.wpv]
        go_simp
        exact hK _ _ ⟨sr, sq, bA, hb, p0, fun _ => rfl, p2, p3, p4, p6, p7, p8, p9, p10, p11, p12, p13, fsr, fsq, pa5, bv5⟩
      · rintro L T u hd hk hcl ⟨sr, sq, bA, hb, p0, p1, p2, p3, p4, p6, p7, p8, p9, p10, p11, p12, p13, fsr, fsq, pa5, bv5⟩ K hK
        simp only [fr, Act.put, List.setIfInBounds_toArray, List.set_cons_zero, List.set_cons_succ, updO] at hK ⊢
        simp [Region.binds] at hd
        have g1 := p1 (by simp [hd])
        have k5 := hcl 5 _ rfl
        simp [Region.binds] at k5
        have k8 := hcl 8 _ rfl
        simp [Region.binds] at k8
        have k9 := hcl 9 _ rfl
        simp [Region.binds] at k9
        have k10 := hcl 10 _ rfl
        simp [Region.binds] at k10
        have k11 := hcl 11 _ rfl
        simp [Region.binds] at k11
        have k12 := hcl 12 _ rfl
        simp [Region.binds] at k12
        have k13 := hcl 13 _ rfl
        simp [Region.binds] at k13
        rw [if_pos (by rfl)]
        simp only [Oper.wpv]
        go_simp
        refine (KR0.out u (hb)).mono ?_
        rintro e u1 ⟨r9, rfl, hO, hGd, hMd, hg⟩
        exact hK _ _ ⟨r9, sq, bA, hT2 hb hg, p0, p1, fun _ => rfl, p3, p4, p6, p7, fun h => absurd (show L 8 = true from h) (by intro hh; have a8 := k8 hh; have a5 := k5 (by simp [a8]); simp [hk] at a5), fun h => absurd (show L 9 = true from h) (by intro hh; have a9 := k9 hh; have a8 := k8 (by simp [a9]); have a5 := k5 (by simp [a8]); simp [hk] at a5), fun h => absurd (show L 10 = true from h) (by intro hh; have a10 := k10 hh; have a9 := k9 (by simp [a10]); have a8 := k8 (by simp [a9]); have a5 := k5 (by simp [a8]); simp [hk] at a5), fun h => absurd (show L 11 = true from h) (by intro hh; have a11 := k11 hh; have a9 := k9 (by simp [a11]); have a8 := k8 (by simp [a9]); have a5 := k5 (by simp [a8]); simp [hk] at a5), fun h => absurd (show L 12 = true from h) (by intro hh; have a12 := k12 hh; have a10 := k10 (by simp [a12]); have a9 := k9 (by simp [a10]); have a8 := k8 (by simp [a9]); have a5 := k5 (by simp [a8]); simp [hk] at a5), fun h => absurd (show L 13 = true from h) (by intro hh; have a13 := k13 hh; have a11 := k11 (by simp [a13]); have a9 := k9 (by simp [a11]); have a8 := k8 (by simp [a9]); have a5 := k5 (by simp [a8]); simp [hk] at a5), fun _ => ⟨hO.isStore, hGd, hMd⟩, fun h0 => ⟨((fsq h0)).1.below hg, ((fsq h0)).2⟩, fun h => absurd (show L 5 = true from h) (by intro hh; have a5 := k5 hh; simp [hk] at a5), fun h => absurd (show L 5 = true from h) (by intro hh; have a5 := k5 hh; simp [hk] at a5)⟩
      · rintro L T u hd hk hcl ⟨sr, sq, bA, hb, p0, p1, p2, p3, p4, p6, p7, p8, p9, p10, p11, p12, p13, fsr, fsq, pa5, bv5⟩ K hK
        simp only [fr, Act.put, List.setIfInBounds_toArray, List.set_cons_zero, List.set_cons_succ, updO] at hK ⊢
        simp [Region.binds] at hd
        rw [if_pos (by rfl)]
        simp only [Oper.wpv]
        go_simp
        exact hK _ _ ⟨sr, sq, bA, hb, p0, p1, p2, fun _ => rfl, p4, p6, p7, p8, p9, p10, p11, p12, p13, fsr, fsq, pa5, bv5⟩
      · rintro L T u hd hk hcl ⟨sr, sq, bA, hb, p0, p1, p2, p3, p4, p6, p7, p8, p9, p10, p11, p12, p13, fsr, fsq, pa5, bv5⟩ K hK
        simp only [fr, Act.put, List.setIfInBounds_toArray, List.set_cons_zero, List.set_cons_succ, updO] at hK ⊢
        simp [Region.binds] at hd
        have g3 := p3 (by simp [hd])
        have k5 := hcl 5 _ rfl
        simp [Region.binds] at k5
        have k8 := hcl 8 _ rfl
        simp [Region.binds] at k8
        have k9 := hcl 9 _ rfl
        simp [Region.binds] at k9
        have k10 := hcl 10 _ rfl
        simp [Region.binds] at k10
        have k11 := hcl 11 _ rfl
        simp [Region.binds] at k11
        have k12 := hcl 12 _ rfl
        simp [Region.binds] at k12
        have k13 := hcl 13 _ rfl
        simp [Region.binds] at k13
        rw [if_pos (by rfl)]
        simp only [Oper.wpv]
        go_simp
        refine (KR1.out u (hb)).mono ?_
        rintro e u1 ⟨r9, rfl, hO, hGd, hMd, hg⟩
        exact hK _ _ ⟨sr, r9, bA, hT2 hb hg, p0, p1, p2, p3, fun _ => rfl, p6, p7, fun h => absurd (show L 8 = true from h) (by intro hh; have a8 := k8 hh; have a5 := k5 (by simp [a8]); simp [hk] at a5), fun h => absurd (show L 9 = true from h) (by intro hh; have a9 := k9 hh; have a8 := k8 (by simp [a9]); have a5 := k5 (by simp [a8]); simp [hk] at a5), fun h => absurd (show L 10 = true from h) (by intro hh; have a10 := k10 hh; have a9 := k9 (by simp [a10]); have a8 := k8 (by simp [a9]); have a5 := k5 (by simp [a8]); simp [hk] at a5), fun h => absurd (show L 11 = true from h) (by intro hh; have a11 := k11 hh; have a9 := k9 (by simp [a11]); have a8 := k8 (by simp [a9]); have a5 := k5 (by simp [a8]); simp [hk] at a5), fun h => absurd (show L 12 = true from h) (by intro hh; have a12 := k12 hh; have a10 := k10 (by simp [a12]); have a9 := k9 (by simp [a10]); have a8 := k8 (by simp [a9]); have a5 := k5 (by simp [a8]); simp [hk] at a5), fun h => absurd (show L 13 = true from h) (by intro hh; have a13 := k13 hh; have a11 := k11 (by simp [a13]); have a9 := k9 (by simp [a11]); have a8 := k8 (by simp [a9]); have a5 := k5 (by simp [a8]); simp [hk] at a5), fun h0 => ⟨((fsr h0)).1.below hg, ((fsr h0)).2⟩, fun _ => ⟨hO.isStore, hGd, hMd⟩, fun h => absurd (show L 5 = true from h) (by intro hh; have a5 := k5 hh; simp [hk] at a5), fun h => absurd (show L 5 = true from h) (by intro hh; have a5 := k5 hh; simp [hk] at a5)⟩
      · rintro L T u hd hk hcl ⟨sr, sq, bA, hb, p0, p1, p2, p3, p4, p6, p7, p8, p9, p10, p11, p12, p13, fsr, fsq, pa5, bv5⟩ K hK
        simp only [fr, Act.put, List.setIfInBounds_toArray, List.set_cons_zero, List.set_cons_succ, updO] at hK ⊢
        simp [Region.binds] at hd
        have g2 := p2 (by simp [hd])
        have g4 := p4 (by simp [hd])
        have k8 := hcl 8 _ rfl
        simp [Region.binds] at k8
        have k9 := hcl 9 _ rfl
        simp [Region.binds] at k9
        have k10 := hcl 10 _ rfl
        simp [Region.binds] at k10
        have k11 := hcl 11 _ rfl
        simp [Region.binds] at k11
        have k12 := hcl 12 _ rfl
        simp [Region.binds] at k12
        have k13 := hcl 13 _ rfl
        simp [Region.binds] at k13
        have hg : Below u.heap.size u (u.alloc (.cells #[.slice sr.ia sr.il sr.ic, .slice sr.la sr.ll sr.lc, .slice sr.da sr.dl sr.dc, .slice sr.oa sr.ol sr.oc, .slice sq.ia sq.il sq.ic, .slice sq.la sq.ll sq.lc, .slice sq.da sq.dl sq.dc, .slice sq.oa sq.ol sq.oc] 55)) := (Below.refl _ _).alloc (Nat.le_refl _) _
        rw [if_pos (by rfl)]
        simp only [Oper.wpv]
        go_simp
        exact hK _ _ ⟨sr, sq, u.heap.size, (hT2 hb hg), p0, p1, p2, p3, p4, p6, p7, fun h => absurd (show L 8 = true from h) (by intro hh; have a8 := k8 hh; simp [hk] at a8), fun h => absurd (show L 9 = true from h) (by intro hh; have a9 := k9 hh; have a8 := k8 (by simp [a9]); simp [hk] at a8), fun h => absurd (show L 10 = true from h) (by intro hh; have a10 := k10 hh; have a9 := k9 (by simp [a10]); have a8 := k8 (by simp [a9]); simp [hk] at a8), fun h => absurd (show L 11 = true from h) (by intro hh; have a11 := k11 hh; have a9 := k9 (by simp [a11]); have a8 := k8 (by simp [a9]); simp [hk] at a8), fun h => absurd (show L 12 = true from h) (by intro hh; have a12 := k12 hh; have a10 := k10 (by simp [a12]); have a9 := k9 (by simp [a10]); have a8 := k8 (by simp [a9]); simp [hk] at a8), fun h => absurd (show L 13 = true from h) (by intro hh; have a13 := k13 hh; have a11 := k11 (by simp [a13]); have a9 := k9 (by simp [a11]); have a8 := k8 (by simp [a9]); simp [hk] at a8), fun h0 => ⟨((fsr h0)).1.below hg, ((fsr h0)).2⟩, fun h0 => ⟨((fsq h0)).1.below hg, ((fsq h0)).2⟩, fun _ => ⟨rfl, hb.size, by simp⟩, fun _ => two_of (r := sr) (q := sq) (fsr (by simp [hd])).1 (fsr (by simp [hd])).2.1.wf (fsq (by simp [hd])).1 (fsq (by simp [hd])).2.1.wf⟩
      · rintro L T u hd hk hcl ⟨sr, sq, bA, hb, p0, p1, p2, p3, p4, p6, p7, p8, p9, p10, p11, p12, p13, fsr, fsq, pa5, bv5⟩ K hK
        simp only [fr, Act.put, List.setIfInBounds_toArray, List.set_cons_zero, List.set_cons_succ, updO] at hK ⊢
        simp [Region.binds] at hd
        rw [if_pos (by rfl)]
        simp only [Oper.wpv]
        go_simp
        exact hK _ _ ⟨sr, sq, bA, hb, p0, p1, p2, p3, p4, fun _ => rfl, p7, p8, p9, p10, p11, p12, p13, fsr, fsq, pa5, bv5⟩
      · rintro L T u hd hk hcl ⟨sr, sq, bA, hb, p0, p1, p2, p3, p4, p6, p7, p8, p9, p10, p11, p12, p13, fsr, fsq, pa5, bv5⟩ K hK
        simp only [fr, Act.put, List.setIfInBounds_toArray, List.set_cons_zero, List.set_cons_succ, updO] at hK ⊢
        simp [Region.binds] at hd
        obtain ⟨x0, x1, x2, y0, y1, y2, y3, y4, n0⟩ := HX.out u (hb)
        rw [if_pos (by rfl)]
        simp only [Oper.wpv]
        go_simp
        exact hK _ _ ⟨sr, sq, bA, hb, p0, p1, p2, p3, p4, p6, fun _ => rfl, p8, p9, p10, p11, p12, p13, fsr, fsq, pa5, bv5⟩
      · rintro L T u hd hk hcl ⟨sr, sq, bA, hb, p0, p1, p2, p3, p4, p6, p7, p8, p9, p10, p11, p12, p13, fsr, fsq, pa5, bv5⟩ K hK
        simp only [fr, Act.put, List.setIfInBounds_toArray, List.set_cons_zero, List.set_cons_succ, updO] at hK ⊢
        simp [Region.binds] at hd
        have g0 := p0 (by simp [hd])
        have g5 := pa5 (by simp [hd])
        have g6 := p6 (by simp [hd])
        have g7 := p7 (by simp [hd])
        have kk0 := hcl 5 _ rfl
        simp [Region.binds] at kk0
        have kk := kk0 (by simp [hd])
        rw [if_pos (by rfl)]
        simp only [Oper.wpv]
        go_simp
        refine (HSa.out sr sq bA u (hb) (bv5 (by simp [hd])) (fsr (by simp [kk])).2.1.ok.ok (fsq (by simp [kk])).2.1.ok.ok (fsr (by simp [kk])).2.2 (fsq (by simp [kk])).2.2).mono ?_
        rintro e u1 ⟨rfl, hg⟩
        exact hK _ _ ⟨sr, sq, bA, hT2 hb hg, p0, p1, p2, p3, p4, p6, p7, fun _ => rfl, p9, p10, p11, p12, p13, fun h0 => ⟨((fsr h0)).1.below hg, ((fsr h0)).2⟩, fun h0 => ⟨((fsq h0)).1.below hg, ((fsq h0)).2⟩, fun h0 => ⟨(pa5 h0).1, (pa5 h0).2.1, Nat.lt_of_lt_of_le (pa5 h0).2.2 hg.size⟩, fun h0 => (bv5 h0).below hg⟩
      · rintro L T u hd hk hcl ⟨sr, sq, bA, hb, p0, p1, p2, p3, p4, p6, p7, p8, p9, p10, p11, p12, p13, fsr, fsq, pa5, bv5⟩ K hK
        simp only [fr, Act.put, List.setIfInBounds_toArray, List.set_cons_zero, List.set_cons_succ, updO] at hK ⊢
        simp [Region.binds] at hd
        have g8 := p8 (by simp [hd])
        rw [if_pos (by rfl)]
        simp only [Oper.wpv]
        go_simp
        exact hK _ _ ⟨sr, sq, bA, hb, p0, p1, p2, p3, p4, p6, p7, p8, fun _ => rfl, p10, p11, p12, p13, fsr, fsq, pa5, bv5⟩
      · rintro L T u hd hk hcl ⟨sr, sq, bA, hb, p0, p1, p2, p3, p4, p6, p7, p8, p9, p10, p11, p12, p13, fsr, fsq, pa5, bv5⟩ K hK
        simp only [fr, Act.put, List.setIfInBounds_toArray, List.set_cons_zero, List.set_cons_succ, updO] at hK ⊢
        simp [Region.binds] at hd
        have g9 := p9 (by simp [hd])
        rw [if_pos (by rfl)]
        simp only [Oper.wpv]
        go_simp
        exact hK _ _ ⟨sr, sq, bA, hb, p0, p1, p2, p3, p4, p6, p7, p8, p9, fun _ => rfl, p11, p12, p13, fsr, fsq, pa5, bv5⟩
      · rintro L T u hd hk hcl ⟨sr, sq, bA, hb, p0, p1, p2, p3, p4, p6, p7, p8, p9, p10, p11, p12, p13, fsr, fsq, pa5, bv5⟩ K hK
        simp only [fr, Act.put, List.setIfInBounds_toArray, List.set_cons_zero, List.set_cons_succ, updO] at hK ⊢
        simp [Region.binds] at hd
        have g9 := p9 (by simp [hd])
        rw [if_pos (by rfl)]
        simp only [Oper.wpv]
        go_simp
        exact hK _ _ ⟨sr, sq, bA, hb, p0, p1, p2, p3, p4, p6, p7, p8, p9, p10, fun _ => rfl, p12, p13, fsr, fsq, pa5, bv5⟩
      · rintro L T u hd hk hcl ⟨sr, sq, bA, hb, p0, p1, p2, p3, p4, p6, p7, p8, p9, p10, p11, p12, p13, fsr, fsq, pa5, bv5⟩ K hK
        simp only [fr, Act.put, List.setIfInBounds_toArray, List.set_cons_zero, List.set_cons_succ, updO] at hK ⊢
        simp [Region.binds] at hd
        have g10 := p10 (by simp [hd])
        rw [if_pos (by rfl)]
        simp only [Oper.wpv]
        go_simp
        exact hK _ _ ⟨sr, sq, bA, hb, p0, p1, p2, p3, p4, p6, p7, p8, p9, p10, p11, fun _ => rfl, p13, fsr, fsq, pa5, bv5⟩
      · rintro L T u hd hk hcl ⟨sr, sq, bA, hb, p0, p1, p2, p3, p4, p6, p7, p8, p9, p10, p11, p12, p13, fsr, fsq, pa5, bv5⟩ K hK
        simp only [fr, Act.put, List.setIfInBounds_toArray, List.set_cons_zero, List.set_cons_succ, updO] at hK ⊢
        simp [Region.binds] at hd
        have g11 := p11 (by simp [hd])
        rw [if_pos (by rfl)]
        simp only [Oper.wpv]
        go_simp
        exact hK _ _ ⟨sr, sq, bA, hb, p0, p1, p2, p3, p4, p6, p7, p8, p9, p10, p11, p12, fun _ => rfl, fsr, fsq, pa5, bv5⟩
    · rintro L T u hl ⟨sr, sq, bA, hb, p0, p1, p2, p3, p4, p6, p7, p8, p9, p10, p11, p12, p13, fsr, fsq, pa5, bv5⟩
      simp only [fr, Act.put, List.setIfInBounds_toArray, List.set_cons_zero, List.set_cons_succ]
      have h5 := p12 (hl 12 (by decide))
      have h6 := p13 (hl 13 (by decide))
      have hu1 : Below Y.heap.size Y u := hb
      clear p0 p1 p2 p3 p4 p6 p7 p8 p9 p10 p11 p12 p13 fsr fsq pa5 bv5 HSa hb
      rw [h5, h6]
      clear h5 h6
      obtain ⟨U1, eU1⟩ : ∃ X : World, X = u := ⟨_, rfl⟩
      subst eU1
      go_upto_region 8 with (fail)
      refine wp_region_inv (by kernel_rfl) [64, 65, 66, 67, 68, 69, 70, 71, 72, 73, 74, 75, 63, 76, 77, 20, 21] (fun L T u => ∃ (sr : SV) (sq : SV) (bA : Nat) (bN : Nat), Below U1.heap.size U1 u ∧ (L 0 = true → T 64 = .agg #[.int .i64 1, .slice (some ⟨g0, 0, none⟩) 2 2, .int .i64 3]) ∧ (L 1 = true → T 65 = .slice a len cap) ∧ (L 2 = true → T 66 = .agg #[.slice sr.ia sr.il sr.ic, .slice sr.la sr.ll sr.lc, .slice sr.da sr.dl sr.dc, .slice sr.oa sr.ol sr.oc]) ∧ (L 3 = true → T 67 = .slice a2 len2 cap2) ∧ (L 4 = true → T 68 = .agg #[.slice sq.ia sq.il sq.ic, .slice sq.la sq.ll sq.lc, .slice sq.da sq.dl sq.dc, .slice sq.oa sq.ol sq.oc]) ∧ (L 6 = true → T 70 = .slice (some ⟨X2.heap.size + 1 + 1, 0, none⟩) 2 2) ∧ (L 7 = true → T 71 = .pointer (some ⟨X2.heap.size + 1 + 1, 0, none⟩)) ∧ (L 8 = true → T 72 = .slice (some ⟨X2.heap.size, 0, none⟩) 1 1) ∧ (L 10 = true → T 74 = .agg #[.int .i64 4, .int .i64 0, .int .i64 0, .int .i64 0, .bool false]) ∧ (L 11 = true → T 75 = .tuple #[.string OUT, .int .i64 0]) ∧ (L 12 = true → T 63 = .tuple #[.string OUT, .int .i64 0]) ∧ (L 13 = true → T 76 = .string OUT) ∧ (L 14 = true → T 77 = .int .i64 0) ∧ (L 15 = true → T 20 = .string OUT) ∧ (L 16 = true → T 21 = .int .i64 0) ∧ (L 2 = true → (IsStore u sr ∧ Gd (SV.data sr) 961 ∧ SV.data sr = D0)) ∧ (L 4 = true → (IsStore u sq ∧ Gd (SV.data sq) 961 ∧ SV.data sq = D2)) ∧ (L 5 = true → (T 69 = .slice (some ⟨bA, 0, none⟩) 2 2 ∧ U1.heap.size ≤ bA ∧ bA < u.heap.size)) ∧ (L 5 = true → IsStores u (some ⟨bA, 0, none⟩) 2 2 [sr, sq]) ∧ (L 9 = true → (T 73 = .slice (some ⟨bN, 0, none⟩) 2 2 ∧ U1.heap.size ≤ bN ∧ bN < u.heap.size)) ∧ (L 9 = true → BoxN u bN 2 [.slice (some ⟨X2.heap.size, 0, none⟩) 1 1, .slice none 0 0])) (by decide) (by kernel_rfl) (by kernel_rfl) ?_ ?_ ?_
      · exact ⟨default, default, 0, 0, (Below.refl _ _).drew, nofun, nofun, nofun, nofun, nofun, nofun, nofun, nofun, nofun, nofun, nofun, nofun, nofun, nofun, nofun, nofun, nofun, nofun, nofun, nofun, nofun⟩
      · refine ⟨?_, ?_, ?_, ?_, ?_, ?_, ?_, ?_, ?_, ?_, ?_, ?_, ?_, ?_, ?_, ?_, ?_, trivial⟩
        · rintro L T u hd hk hcl ⟨sr, sq, bA, bN, hb, p0, p1, p2, p3, p4, p6, p7, p8, p10, p11, p12, p13, p14, p15, p16, fsr, fsq, pa5, bv5, pa9, bv9⟩ K hK
          simp only [fr, Act.put, List.setIfInBounds_toArray, List.set_cons_zero, List.set_cons_succ, updO] at hK ⊢
          simp [Region.binds] at hd
          obtain ⟨x0, x1, x2, y0, y1, y2, y3, y4, n0⟩ := HX.out u (hT2 hu1 hb)
          rw [if_pos (by rfl)]
          simp only [Oper.wpv]
          go_simp
          exact hK _ _ ⟨sr, sq, bA, bN, hb, fun _ => rfl, p1, p2, p3, p4, p6, p7, p8, p10, p11, p12, p13, p14, p15, p16, fsr, fsq, pa5, bv5, pa9, bv9⟩
        · rintro L T u hd hk hcl ⟨sr, sq, bA, bN, hb, p0, p1, p2, p3, p4, p6, p7, p8, p10, p11, p12, p13, p14, p15, p16, fsr, fsq, pa5, bv5, pa9, bv9⟩ K hK
          simp only [fr, Act.put, List.setIfInBounds_toArray, List.set_cons_zero, List.set_cons_succ, updO] at hK ⊢
          simp [Region.binds] at hd
          rw [if_pos (by rfl)]
          simp only [Oper.wpv]
          go_simp
          exact hK _ _ ⟨sr, sq, bA, bN, hb, p0, fun _ => rfl, p2, p3, p4, p6, p7, p8, p10, p11, p12, p13, p14, p15, p16, fsr, fsq, pa5, bv5, pa9, bv9⟩
        · rintro L T u hd hk hcl ⟨sr, sq, bA, bN, hb, p0, p1, p2, p3, p4, p6, p7, p8, p10, p11, p12, p13, p14, p15, p16, fsr, fsq, pa5, bv5, pa9, bv9⟩ K hK
          simp only [fr, Act.put, List.setIfInBounds_toArray, List.set_cons_zero, List.set_cons_succ, updO] at hK ⊢
          simp [Region.binds] at hd
          have g1 := p1 (by simp [hd])
          have k5 := hcl 5 _ rfl
          simp [Region.binds] at k5
          have k11 := hcl 11 _ rfl
          simp [Region.binds] at k11
          have k12 := hcl 12 _ rfl
          simp [Region.binds] at k12
          have k13 := hcl 13 _ rfl
          simp [Region.binds] at k13
          have k14 := hcl 14 _ rfl
          simp [Region.binds] at k14
          have k15 := hcl 15 _ rfl
          simp [Region.binds] at k15
          have k16 := hcl 16 _ rfl
          simp [Region.binds] at k16
          rw [if_pos (by rfl)]
          simp only [Oper.wpv]
          go_simp
          refine (KR0.out u (hT2 hu1 hb)).mono ?_
          rintro e u1 ⟨r9, rfl, hO, hGd, hMd, hg⟩
          exact hK _ _ ⟨r9, sq, bA, bN, hT2 hb hg, p0, p1, fun _ => rfl, p3, p4, p6, p7, p8, p10, fun h => absurd (show L 11 = true from h) (by intro hh; have a11 := k11 hh; have a5 := k5 (by simp [a11]); simp [hk] at a5), fun h => absurd (show L 12 = true from h) (by intro hh; have a12 := k12 hh; have a11 := k11 (by simp [a12]); have a5 := k5 (by simp [a11]); simp [hk] at a5), fun h => absurd (show L 13 = true from h) (by intro hh; have a13 := k13 hh; have a12 := k12 (by simp [a13]); have a11 := k11 (by simp [a12]); have a5 := k5 (by simp [a11]); simp [hk] at a5), fun h => absurd (show L 14 = true from h) (by intro hh; have a14 := k14 hh; have a12 := k12 (by simp [a14]); have a11 := k11 (by simp [a12]); have a5 := k5 (by simp [a11]); simp [hk] at a5), fun h => absurd (show L 15 = true from h) (by intro hh; have a15 := k15 hh; have a13 := k13 (by simp [a15]); have a12 := k12 (by simp [a13]); have a11 := k11 (by simp [a12]); have a5 := k5 (by simp [a11]); simp [hk] at a5), fun h => absurd (show L 16 = true from h) (by intro hh; have a16 := k16 hh; have a14 := k14 (by simp [a16]); have a12 := k12 (by simp [a14]); have a11 := k11 (by simp [a12]); have a5 := k5 (by simp [a11]); simp [hk] at a5), fun _ => ⟨hO.isStore, hGd, hMd⟩, fun h0 => ⟨((fsq h0)).1.below hg, ((fsq h0)).2⟩, fun h => absurd (show L 5 = true from h) (by intro hh; have a5 := k5 hh; simp [hk] at a5), fun h => absurd (show L 5 = true from h) (by intro hh; have a5 := k5 hh; simp [hk] at a5), fun h0 => ⟨(pa9 h0).1, (pa9 h0).2.1, Nat.lt_of_lt_of_le (pa9 h0).2.2 hg.size⟩, fun h0 => (bv9 h0).below hg (bv9 h0).lt⟩
        · rintro L T u hd hk hcl ⟨sr, sq, bA, bN, hb, p0, p1, p2, p3, p4, p6, p7, p8, p10, p11, p12, p13, p14, p15, p16, fsr, fsq, pa5, bv5, pa9, bv9⟩ K hK
          simp only [fr, Act.put, List.setIfInBounds_toArray, List.set_cons_zero, List.set_cons_succ, updO] at hK ⊢
          simp [Region.binds] at hd
          rw [if_pos (by rfl)]
          simp only [Oper.wpv]
          go_simp
          exact hK _ _ ⟨sr, sq, bA, bN, hb, p0, p1, p2, fun _ => rfl, p4, p6, p7, p8, p10, p11, p12, p13, p14, p15, p16, fsr, fsq, pa5, bv5, pa9, bv9⟩
        · rintro L T u hd hk hcl ⟨sr, sq, bA, bN, hb, p0, p1, p2, p3, p4, p6, p7, p8, p10, p11, p12, p13, p14, p15, p16, fsr, fsq, pa5, bv5, pa9, bv9⟩ K hK
          simp only [fr, Act.put, List.setIfInBounds_toArray, List.set_cons_zero, List.set_cons_succ, updO] at hK ⊢
          simp [Region.binds] at hd
          have g3 := p3 (by simp [hd])
          have k5 := hcl 5 _ rfl
          simp [Region.binds] at k5
          have k11 := hcl 11 _ rfl
          simp [Region.binds] at k11
          have k12 := hcl 12 _ rfl
          simp [Region.binds] at k12
          have k13 := hcl 13 _ rfl
          simp [Region.binds] at k13
          have k14 := hcl 14 _ rfl
          simp [Region.binds] at k14
          have k15 := hcl 15 _ rfl
          simp [Region.binds] at k15
          have k16 := hcl 16 _ rfl
          simp [Region.binds] at k16
          rw [if_pos (by rfl)]
          simp only [Oper.wpv]
          go_simp
          refine (KR2.out u (hT2 hu1 hb)).mono ?_
          rintro e u1 ⟨r9, rfl, hO, hGd, hMd, hg⟩
          exact hK _ _ ⟨sr, r9, bA, bN, hT2 hb hg, p0, p1, p2, p3, fun _ => rfl, p6, p7, p8, p10, fun h => absurd (show L 11 = true from h) (by intro hh; have a11 := k11 hh; have a5 := k5 (by simp [a11]); simp [hk] at a5), fun h => absurd (show L 12 = true from h) (by intro hh; have a12 := k12 hh; have a11 := k11 (by simp [a12]); have a5 := k5 (by simp [a11]); simp [hk] at a5), fun h => absurd (show L 13 = true from h) (by intro hh; have a13 := k13 hh; have a12 := k12 (by simp [a13]); have a11 := k11 (by simp [a12]); have a5 := k5 (by simp [a11]); simp [hk] at a5), fun h => absurd (show L 14 = true from h) (by intro hh; have a14 := k14 hh; have a12 := k12 (by simp [a14]); have a11 := k11 (by simp [a12]); have a5 := k5 (by simp [a11]); simp [hk] at a5), fun h => absurd (show L 15 = true from h) (by intro hh; have a15 := k15 hh; have a13 := k13 (by simp [a15]); have a12 := k12 (by simp [a13]); have a11 := k11 (by simp [a12]); have a5 := k5 (by simp [a11]); simp [hk] at a5), fun h => absurd (show L 16 = true from h) (by intro hh; have a16 := k16 hh; have a14 := k14 (by simp [a16]); have a12 := k12 (by simp [a14]); have a11 := k11 (by simp [a12]); have a5 := k5 (by simp [a11]); simp [hk] at a5), fun h0 => ⟨((fsr h0)).1.below hg, ((fsr h0)).2⟩, fun _ => ⟨hO.isStore, hGd, hMd⟩, fun h => absurd (show L 5 = true from h) (by intro hh; have a5 := k5 hh; simp [hk] at a5), fun h => absurd (show L 5 = true from h) (by intro hh; have a5 := k5 hh; simp [hk] at a5), fun h0 => ⟨(pa9 h0).1, (pa9 h0).2.1, Nat.lt_of_lt_of_le (pa9 h0).2.2 hg.size⟩, fun h0 => (bv9 h0).below hg (bv9 h0).lt⟩
        · rintro L T u hd hk hcl ⟨sr, sq, bA, bN, hb, p0, p1, p2, p3, p4, p6, p7, p8, p10, p11, p12, p13, p14, p15, p16, fsr, fsq, pa5, bv5, pa9, bv9⟩ K hK
          simp only [fr, Act.put, List.setIfInBounds_toArray, List.set_cons_zero, List.set_cons_succ, updO] at hK ⊢
          simp [Region.binds] at hd
          have g2 := p2 (by simp [hd])
          have g4 := p4 (by simp [hd])
          have k11 := hcl 11 _ rfl
          simp [Region.binds] at k11
          have k12 := hcl 12 _ rfl
          simp [Region.binds] at k12
          have k13 := hcl 13 _ rfl
          simp [Region.binds] at k13
          have k14 := hcl 14 _ rfl
          simp [Region.binds] at k14
          have k15 := hcl 15 _ rfl
          simp [Region.binds] at k15
          have k16 := hcl 16 _ rfl
          simp [Region.binds] at k16
          have hg : Below u.heap.size u (u.alloc (.cells #[.slice sr.ia sr.il sr.ic, .slice sr.la sr.ll sr.lc, .slice sr.da sr.dl sr.dc, .slice sr.oa sr.ol sr.oc, .slice sq.ia sq.il sq.ic, .slice sq.la sq.ll sq.lc, .slice sq.da sq.dl sq.dc, .slice sq.oa sq.ol sq.oc] 55)) := (Below.refl _ _).alloc (Nat.le_refl _) _
          rw [if_pos (by rfl)]
          simp only [Oper.wpv]
          go_simp
          exact hK _ _ ⟨sr, sq, u.heap.size, bN, (hT2 hb hg), p0, p1, p2, p3, p4, p6, p7, p8, p10, fun h => absurd (show L 11 = true from h) (by intro hh; have a11 := k11 hh; simp [hk] at a11), fun h => absurd (show L 12 = true from h) (by intro hh; have a12 := k12 hh; have a11 := k11 (by simp [a12]); simp [hk] at a11), fun h => absurd (show L 13 = true from h) (by intro hh; have a13 := k13 hh; have a12 := k12 (by simp [a13]); have a11 := k11 (by simp [a12]); simp [hk] at a11), fun h => absurd (show L 14 = true from h) (by intro hh; have a14 := k14 hh; have a12 := k12 (by simp [a14]); have a11 := k11 (by simp [a12]); simp [hk] at a11), fun h => absurd (show L 15 = true from h) (by intro hh; have a15 := k15 hh; have a13 := k13 (by simp [a15]); have a12 := k12 (by simp [a13]); have a11 := k11 (by simp [a12]); simp [hk] at a11), fun h => absurd (show L 16 = true from h) (by intro hh; have a16 := k16 hh; have a14 := k14 (by simp [a16]); have a12 := k12 (by simp [a14]); have a11 := k11 (by simp [a12]); simp [hk] at a11), fun h0 => ⟨((fsr h0)).1.below hg, ((fsr h0)).2⟩, fun h0 => ⟨((fsq h0)).1.below hg, ((fsq h0)).2⟩, fun _ => ⟨rfl, hb.size, by simp⟩, fun _ => two_of (r := sr) (q := sq) (fsr (by simp [hd])).1 (fsr (by simp [hd])).2.1.wf (fsq (by simp [hd])).1 (fsq (by simp [hd])).2.1.wf, fun h0 => ⟨(pa9 h0).1, (pa9 h0).2.1, Nat.lt_of_lt_of_le (pa9 h0).2.2 hg.size⟩, fun h0 => (bv9 h0).below hg (bv9 h0).lt⟩
        · rintro L T u hd hk hcl ⟨sr, sq, bA, bN, hb, p0, p1, p2, p3, p4, p6, p7, p8, p10, p11, p12, p13, p14, p15, p16, fsr, fsq, pa5, bv5, pa9, bv9⟩ K hK
          simp only [fr, Act.put, List.setIfInBounds_toArray, List.set_cons_zero, List.set_cons_succ, updO] at hK ⊢
          simp [Region.binds] at hd
          rw [if_pos (by rfl)]
          simp only [Oper.wpv]
          go_simp
          exact hK _ _ ⟨sr, sq, bA, bN, hb, p0, p1, p2, p3, p4, fun _ => rfl, p7, p8, p10, p11, p12, p13, p14, p15, p16, fsr, fsq, pa5, bv5, pa9, bv9⟩
        · rintro L T u hd hk hcl ⟨sr, sq, bA, bN, hb, p0, p1, p2, p3, p4, p6, p7, p8, p10, p11, p12, p13, p14, p15, p16, fsr, fsq, pa5, bv5, pa9, bv9⟩ K hK
          simp only [fr, Act.put, List.setIfInBounds_toArray, List.set_cons_zero, List.set_cons_succ, updO] at hK ⊢
          simp [Region.binds] at hd
          have g6 := p6 (by simp [hd])
          rw [if_pos (by rfl)]
          simp only [Oper.wpv]
          go_simp
          exact hK _ _ ⟨sr, sq, bA, bN, hb, p0, p1, p2, p3, p4, p6, fun _ => rfl, p8, p10, p11, p12, p13, p14, p15, p16, fsr, fsq, pa5, bv5, pa9, bv9⟩
        · rintro L T u hd hk hcl ⟨sr, sq, bA, bN, hb, p0, p1, p2, p3, p4, p6, p7, p8, p10, p11, p12, p13, p14, p15, p16, fsr, fsq, pa5, bv5, pa9, bv9⟩ K hK
          simp only [fr, Act.put, List.setIfInBounds_toArray, List.set_cons_zero, List.set_cons_succ, updO] at hK ⊢
          simp [Region.binds] at hd
          have g7 := p7 (by simp [hd])
          obtain ⟨x0, x1, x2, y0, y1, y2, y3, y4, n0⟩ := HX.out u (hT2 hu1 hb)
          rw [if_pos (by rfl)]
          simp only [Oper.wpv]
          go_simp
          exact hK _ _ ⟨sr, sq, bA, bN, hb, p0, p1, p2, p3, p4, p6, p7, fun _ => rfl, p10, p11, p12, p13, p14, p15, p16, fsr, fsq, pa5, bv5, pa9, bv9⟩
        · rintro L T u hd hk hcl ⟨sr, sq, bA, bN, hb, p0, p1, p2, p3, p4, p6, p7, p8, p10, p11, p12, p13, p14, p15, p16, fsr, fsq, pa5, bv5, pa9, bv9⟩ K hK
          simp only [fr, Act.put, List.setIfInBounds_toArray, List.set_cons_zero, List.set_cons_succ, updO] at hK ⊢
          simp [Region.binds] at hd
          have g8 := p8 (by simp [hd])
          have k11 := hcl 11 _ rfl
          simp [Region.binds] at k11
          have k12 := hcl 12 _ rfl
          simp [Region.binds] at k12
          have k13 := hcl 13 _ rfl
          simp [Region.binds] at k13
          have k14 := hcl 14 _ rfl
          simp [Region.binds] at k14
          have k15 := hcl 15 _ rfl
          simp [Region.binds] at k15
          have k16 := hcl 16 _ rfl
          simp [Region.binds] at k16
          have hg : Below u.heap.size u (u.alloc (.cells #[.slice (some ⟨X2.heap.size, 0, none⟩) 1 1, .slice none 0 0] 49)) := (Below.refl _ _).alloc (Nat.le_refl _) _
          rw [if_pos (by rfl)]
          simp only [Oper.wpv]
          go_simp
          exact hK _ _ ⟨sr, sq, bA, u.heap.size, (hT2 hb hg), p0, p1, p2, p3, p4, p6, p7, p8, p10, fun h => absurd (show L 11 = true from h) (by intro hh; have a11 := k11 hh; simp [hk] at a11), fun h => absurd (show L 12 = true from h) (by intro hh; have a12 := k12 hh; have a11 := k11 (by simp [a12]); simp [hk] at a11), fun h => absurd (show L 13 = true from h) (by intro hh; have a13 := k13 hh; have a12 := k12 (by simp [a13]); have a11 := k11 (by simp [a12]); simp [hk] at a11), fun h => absurd (show L 14 = true from h) (by intro hh; have a14 := k14 hh; have a12 := k12 (by simp [a14]); have a11 := k11 (by simp [a12]); simp [hk] at a11), fun h => absurd (show L 15 = true from h) (by intro hh; have a15 := k15 hh; have a13 := k13 (by simp [a15]); have a12 := k12 (by simp [a13]); have a11 := k11 (by simp [a12]); simp [hk] at a11), fun h => absurd (show L 16 = true from h) (by intro hh; have a16 := k16 hh; have a14 := k14 (by simp [a16]); have a12 := k12 (by simp [a14]); have a11 := k11 (by simp [a12]); simp [hk] at a11), fun h0 => ⟨((fsr h0)).1.below hg, ((fsr h0)).2⟩, fun h0 => ⟨((fsq h0)).1.below hg, ((fsq h0)).2⟩, fun h0 => ⟨(pa5 h0).1, (pa5 h0).2.1, Nat.lt_of_lt_of_le (pa5 h0).2.2 hg.size⟩, fun h0 => (bv5 h0).below hg, fun _ => ⟨rfl, hb.size, by simp⟩, fun _ => boxn_new u #[.slice (some ⟨X2.heap.size, 0, none⟩) 1 1, .slice none 0 0] 49 2 rfl⟩
        · rintro L T u hd hk hcl ⟨sr, sq, bA, bN, hb, p0, p1, p2, p3, p4, p6, p7, p8, p10, p11, p12, p13, p14, p15, p16, fsr, fsq, pa5, bv5, pa9, bv9⟩ K hK
          simp only [fr, Act.put, List.setIfInBounds_toArray, List.set_cons_zero, List.set_cons_succ, updO] at hK ⊢
          simp [Region.binds] at hd
          obtain ⟨x0, x1, x2, y0, y1, y2, y3, y4, n0⟩ := HX.out u (hT2 hu1 hb)
          rw [if_pos (by rfl)]
          simp only [Oper.wpv]
          go_simp
          exact hK _ _ ⟨sr, sq, bA, bN, hb, p0, p1, p2, p3, p4, p6, p7, p8, fun _ => rfl, p11, p12, p13, p14, p15, p16, fsr, fsq, pa5, bv5, pa9, bv9⟩
        · rintro L T u hd hk hcl ⟨sr, sq, bA, bN, hb, p0, p1, p2, p3, p4, p6, p7, p8, p10, p11, p12, p13, p14, p15, p16, fsr, fsq, pa5, bv5, pa9, bv9⟩ K hK
          simp only [fr, Act.put, List.setIfInBounds_toArray, List.set_cons_zero, List.set_cons_succ, updO] at hK ⊢
          simp [Region.binds] at hd
          have g0 := p0 (by simp [hd])
          have g5 := pa5 (by simp [hd])
          have g9 := pa9 (by simp [hd])
          have g10 := p10 (by simp [hd])
          have kk0 := hcl 5 _ rfl
          simp [Region.binds] at kk0
          have kk := kk0 (by simp [hd])
          rw [if_pos (by rfl)]
          simp only [Oper.wpv]
          go_simp
          refine (HSb.out sr sq bA bN u (hT2 hu1 hb) (bv5 (by simp [hd])) (bv9 (by simp [hd])) (fsr (by simp [kk])).2.1.ok.ok (fsq (by simp [kk])).2.1.ok.ok (fsr (by simp [kk])).2.2 (fsq (by simp [kk])).2.2).mono ?_
          rintro e u1 ⟨rfl, hg⟩
          exact hK _ _ ⟨sr, sq, bA, bN, hT2 hb hg, p0, p1, p2, p3, p4, p6, p7, p8, p10, fun _ => rfl, p12, p13, p14, p15, p16, fun h0 => ⟨((fsr h0)).1.below hg, ((fsr h0)).2⟩, fun h0 => ⟨((fsq h0)).1.below hg, ((fsq h0)).2⟩, fun h0 => ⟨(pa5 h0).1, (pa5 h0).2.1, Nat.lt_of_lt_of_le (pa5 h0).2.2 hg.size⟩, fun h0 => (bv5 h0).below hg, fun h0 => ⟨(pa9 h0).1, (pa9 h0).2.1, Nat.lt_of_lt_of_le (pa9 h0).2.2 hg.size⟩, fun h0 => (bv9 h0).below hg (bv9 h0).lt⟩
        · rintro L T u hd hk hcl ⟨sr, sq, bA, bN, hb, p0, p1, p2, p3, p4, p6, p7, p8, p10, p11, p12, p13, p14, p15, p16, fsr, fsq, pa5, bv5, pa9, bv9⟩ K hK
          simp only [fr, Act.put, List.setIfInBounds_toArray, List.set_cons_zero, List.set_cons_succ, updO] at hK ⊢
          simp [Region.binds] at hd
          have g11 := p11 (by simp [hd])
          rw [if_pos (by rfl)]
          simp only [Oper.wpv]
          go_simp
          exact hK _ _ ⟨sr, sq, bA, bN, hb, p0, p1, p2, p3, p4, p6, p7, p8, p10, p11, fun _ => rfl, p13, p14, p15, p16, fsr, fsq, pa5, bv5, pa9, bv9⟩
        · rintro L T u hd hk hcl ⟨sr, sq, bA, bN, hb, p0, p1, p2, p3, p4, p6, p7, p8, p10, p11, p12, p13, p14, p15, p16, fsr, fsq, pa5, bv5, pa9, bv9⟩ K hK
          simp only [fr, Act.put, List.setIfInBounds_toArray, List.set_cons_zero, List.set_cons_succ, updO] at hK ⊢
          simp [Region.binds] at hd
          have g12 := p12 (by simp [hd])
          rw [if_pos (by rfl)]
          simp only [Oper.wpv]
          go_simp
          exact hK _ _ ⟨sr, sq, bA, bN, hb, p0, p1, p2, p3, p4, p6, p7, p8, p10, p11, p12, fun _ => rfl, p14, p15, p16, fsr, fsq, pa5, bv5, pa9, bv9⟩
        · rintro L T u hd hk hcl ⟨sr, sq, bA, bN, hb, p0, p1, p2, p3, p4, p6, p7, p8, p10, p11, p12, p13, p14, p15, p16, fsr, fsq, pa5, bv5, pa9, bv9⟩ K hK
          simp only [fr, Act.put, List.setIfInBounds_toArray, List.set_cons_zero, List.set_cons_succ, updO] at hK ⊢
          simp [Region.binds] at hd
          have g12 := p12 (by simp [hd])
          rw [if_pos (by rfl)]
          simp only [Oper.wpv]
          go_simp
          exact hK _ _ ⟨sr, sq, bA, bN, hb, p0, p1, p2, p3, p4, p6, p7, p8, p10, p11, p12, p13, fun _ => rfl, p15, p16, fsr, fsq, pa5, bv5, pa9, bv9⟩
        · rintro L T u hd hk hcl ⟨sr, sq, bA, bN, hb, p0, p1, p2, p3, p4, p6, p7, p8, p10, p11, p12, p13, p14, p15, p16, fsr, fsq, pa5, bv5, pa9, bv9⟩ K hK
          simp only [fr, Act.put, List.setIfInBounds_toArray, List.set_cons_zero, List.set_cons_succ, updO] at hK ⊢
          simp [Region.binds] at hd
          have g13 := p13 (by simp [hd])
          rw [if_pos (by rfl)]
          simp only [Oper.wpv]
          go_simp
          exact hK _ _ ⟨sr, sq, bA, bN, hb, p0, p1, p2, p3, p4, p6, p7, p8, p10, p11, p12, p13, p14, fun _ => rfl, p16, fsr, fsq, pa5, bv5, pa9, bv9⟩
        · rintro L T u hd hk hcl ⟨sr, sq, bA, bN, hb, p0, p1, p2, p3, p4, p6, p7, p8, p10, p11, p12, p13, p14, p15, p16, fsr, fsq, pa5, bv5, pa9, bv9⟩ K hK
          simp only [fr, Act.put, List.setIfInBounds_toArray, List.set_cons_zero, List.set_cons_succ, updO] at hK ⊢
          simp [Region.binds] at hd
          have g14 := p14 (by simp [hd])
          rw [if_pos (by rfl)]
          simp only [Oper.wpv]
          go_simp
          exact hK _ _ ⟨sr, sq, bA, bN, hb, p0, p1, p2, p3, p4, p6, p7, p8, p10, p11, p12, p13, p14, p15, fun _ => rfl, fsr, fsq, pa5, bv5, pa9, bv9⟩
      · rintro L T u hl ⟨sr, sq, bA, bN, hb, p0, p1, p2, p3, p4, p6, p7, p8, p10, p11, p12, p13, p14, p15, p16, fsr, fsq, pa5, bv5, pa9, bv9⟩
        simp only [fr, Act.put, List.setIfInBounds_toArray, List.set_cons_zero, List.set_cons_succ]
        have h5 := p15 (hl 15 (by decide))
        have h6 := p16 (hl 16 (by decide))
        have hu2 : Below Y.heap.size Y u := hT2 hu1 hb
        clear p0 p1 p2 p3 p4 p6 p7 p8 p10 p11 p12 p13 p14 p15 p16 fsr fsq pa5 bv5 pa9 bv9 HSb hb hu1
        rw [h5, h6]
        clear h5 h6
        obtain ⟨U2, eU2⟩ : ∃ X : World, X = u := ⟨_, rfl⟩
        subst eU2
        go_upto_region 9 with (fail)
        refine wp_region_inv (by kernel_rfl) [79, 80, 81, 82, 83, 84, 85, 86, 87, 78, 88, 89, 22, 23] (fun L T u => ∃ (sr : SV) (sq : SV) (bA : Nat), Below U2.heap.size U2 u ∧ (L 0 = true → T 79 = .agg #[.int .i64 1, .slice (some ⟨g0, 0, none⟩) 2 2, .int .i64 3]) ∧ (L 1 = true → T 80 = .slice a len cap) ∧ (L 2 = true → T 81 = .agg #[.slice sr.ia sr.il sr.ic, .slice sr.la sr.ll sr.lc, .slice sr.da sr.dl sr.dc, .slice sr.oa sr.ol sr.oc]) ∧ (L 3 = true → T 82 = .slice a1 len1 cap1) ∧ (L 4 = true → T 83 = .agg #[.slice sq.ia sq.il sq.ic, .slice sq.la sq.ll sq.lc, .slice sq.da sq.dl sq.dc, .slice sq.oa sq.ol sq.oc]) ∧ (L 6 = true → T 85 = .slice (some ⟨X2.heap.size + 1 + 1, 0, none⟩) 2 2) ∧ (L 7 = true → T 86 = .agg #[.int .i64 4, .int .i64 0, .int .i64 0, .int .i64 0, .bool false]) ∧ (L 8 = true → T 87 = .tuple #[.string ALL, .int .i64 0]) ∧ (L 9 = true → T 78 = .tuple #[.string ALL, .int .i64 0]) ∧ (L 10 = true → T 88 = .string ALL) ∧ (L 11 = true → T 89 = .int .i64 0) ∧ (L 12 = true → T 22 = .string ALL) ∧ (L 13 = true → T 23 = .int .i64 0) ∧ (L 2 = true → (IsStore u sr ∧ Gd (SV.data sr) 961 ∧ SV.data sr = D0)) ∧ (L 4 = true → (IsStore u sq ∧ Gd (SV.data sq) 961 ∧ SV.data sq = D1)) ∧ (L 5 = true → (T 84 = .slice (some ⟨bA, 0, none⟩) 2 2 ∧ U2.heap.size ≤ bA ∧ bA < u.heap.size)) ∧ (L 5 = true → IsStores u (some ⟨bA, 0, none⟩) 2 2 [sr, sq])) (by decide) (by kernel_rfl) (by kernel_rfl) ?_ ?_ ?_
        · exact ⟨default, default, 0, (Below.refl _ _).drew, nofun, nofun, nofun, nofun, nofun, nofun, nofun, nofun, nofun, nofun, nofun, nofun, nofun, nofun, nofun, nofun, nofun⟩
        · refine ⟨?_, ?_, ?_, ?_, ?_, ?_, ?_, ?_, ?_, ?_, ?_, ?_, ?_, ?_, trivial⟩
          · rintro L T u hd hk hcl ⟨sr, sq, bA, hb, p0, p1, p2, p3, p4, p6, p7, p8, p9, p10, p11, p12, p13, fsr, fsq, pa5, bv5⟩ K hK
            simp only [fr, Act.put, List.setIfInBounds_toArray, List.set_cons_zero, List.set_cons_succ, updO] at hK ⊢
            simp [Region.binds] at hd
            obtain ⟨x0, x1, x2, y0, y1, y2, y3, y4, n0⟩ := HX.out u (hT2 hu2 hb)
            rw [if_pos (by rfl)]
            simp only [Oper.wpv]
            go_simp
            exact hK _ _ ⟨sr, sq, bA, hb, fun _ => rfl, p1, p2, p3, p4, p6, p7, p8, p9, p10, p11, p12, p13, fsr, fsq, pa5, bv5⟩
          · rintro L T u hd hk hcl ⟨sr, sq, bA, hb, p0, p1, p2, p3, p4, p6, p7, p8, p9, p10, p11, p12, p13, fsr, fsq, pa5, bv5⟩ K hK
            simp only [fr, Act.put, List.setIfInBounds_toArray, List.set_cons_zero, List.set_cons_succ, updO] at hK ⊢
            simp [Region.binds] at hd
            rw [if_pos (by rfl)]
            simp only [Oper.wpv]
            go_simp
            exact hK _ _ ⟨sr, sq, bA, hb, p0, fun _ => rfl, p2, p3, p4, p6, p7, p8, p9, p10, p11, p12, p13, fsr, fsq, pa5, bv5⟩
          · rintro L T u hd hk hcl ⟨sr, sq, bA, hb, p0, p1, p2, p3, p4, p6, p7, p8, p9, p10, p11, p12, p13, fsr, fsq, pa5, bv5⟩ K hK
            simp only [fr, Act.put, List.setIfInBounds_toArray, List.set_cons_zero, List.set_cons_succ, updO] at hK ⊢
            simp [Region.binds] at hd
            have g1 := p1 (by simp [hd])
            have k5 := hcl 5 _ rfl
            simp [Region.binds] at k5
            have k8 := hcl 8 _ rfl
            simp [Region.binds] at k8
            have k9 := hcl 9 _ rfl
            simp [Region.binds] at k9
            have k10 := hcl 10 _ rfl
            simp [Region.binds] at k10
            have k11 := hcl 11 _ rfl
            simp [Region.binds] at k11
            have k12 := hcl 12 _ rfl
            simp [Region.binds] at k12
            have k13 := hcl 13 _ rfl
            simp [Region.binds] at k13
            rw [if_pos (by rfl)]
            simp only [Oper.wpv]
            go_simp
            refine (KR0.out u (hT2 hu2 hb)).mono ?_
            rintro e u1 ⟨r9, rfl, hO, hGd, hMd, hg⟩
            exact hK _ _ ⟨r9, sq, bA, hT2 hb hg, p0, p1, fun _ => rfl, p3, p4, p6, p7, fun h => absurd (show L 8 = true from h) (by intro hh; have a8 := k8 hh; have a5 := k5 (by simp [a8]); simp [hk] at a5), fun h => absurd (show L 9 = true from h) (by intro hh; have a9 := k9 hh; have a8 := k8 (by simp [a9]); have a5 := k5 (by simp [a8]); simp [hk] at a5), fun h => absurd (show L 10 = true from h) (by intro hh; have a10 := k10 hh; have a9 := k9 (by simp [a10]); have a8 := k8 (by simp [a9]); have a5 := k5 (by simp [a8]); simp [hk] at a5), fun h => absurd (show L 11 = true from h) (by intro hh; have a11 := k11 hh; have a9 := k9 (by simp [a11]); have a8 := k8 (by simp [a9]); have a5 := k5 (by simp [a8]); simp [hk] at a5), fun h => absurd (show L 12 = true from h) (by intro hh; have a12 := k12 hh; have a10 := k10 (by simp [a12]); have a9 := k9 (by simp [a10]); have a8 := k8 (by simp [a9]); have a5 := k5 (by simp [a8]); simp [hk] at a5), fun h => absurd (show L 13 = true from h) (by intro hh; have a13 := k13 hh; have a11 := k11 (by simp [a13]); have a9 := k9 (by simp [a11]); have a8 := k8 (by simp [a9]); have a5 := k5 (by simp [a8]); simp [hk] at a5), fun _ => ⟨hO.isStore, hGd, hMd⟩, fun h0 => ⟨((fsq h0)).1.below hg, ((fsq h0)).2⟩, fun h => absurd (show L 5 = true from h) (by intro hh; have a5 := k5 hh; simp [hk] at a5), fun h => absurd (show L 5 = true from h) (by intro hh; have a5 := k5 hh; simp [hk] at a5)⟩
          · rintro L T u hd hk hcl ⟨sr, sq, bA, hb, p0, p1, p2, p3, p4, p6, p7, p8, p9, p10, p11, p12, p13, fsr, fsq, pa5, bv5⟩ K hK
            simp only [fr, Act.put, List.setIfInBounds_toArray, List.set_cons_zero, List.set_cons_succ, updO] at hK ⊢
            simp [Region.binds] at hd
            rw [if_pos (by rfl)]
            simp only [Oper.wpv]
            go_simp
            exact hK _ _ ⟨sr, sq, bA, hb, p0, p1, p2, fun _ => rfl, p4, p6, p7, p8, p9, p10, p11, p12, p13, fsr, fsq, pa5, bv5⟩
          · rintro L T u hd hk hcl ⟨sr, sq, bA, hb, p0, p1, p2, p3, p4, p6, p7, p8, p9, p10, p11, p12, p13, fsr, fsq, pa5, bv5⟩ K hK
            simp only [fr, Act.put, List.setIfInBounds_toArray, List.set_cons_zero, List.set_cons_succ, updO] at hK ⊢
            simp [Region.binds] at hd
            have g3 := p3 (by simp [hd])
            have k5 := hcl 5 _ rfl
            simp [Region.binds] at k5
            have k8 := hcl 8 _ rfl
            simp [Region.binds] at k8
            have k9 := hcl 9 _ rfl
            simp [Region.binds] at k9
            have k10 := hcl 10 _ rfl
            simp [Region.binds] at k10
            have k11 := hcl 11 _ rfl
            simp [Region.binds] at k11
            have k12 := hcl 12 _ rfl
            simp [Region.binds] at k12
            have k13 := hcl 13 _ rfl
            simp [Region.binds] at k13
            rw [if_pos (by rfl)]
            simp only [Oper.wpv]
            go_simp
            refine (KR1.out u (hT2 hu2 hb)).mono ?_
            rintro e u1 ⟨r9, rfl, hO, hGd, hMd, hg⟩
            exact hK _ _ ⟨sr, r9, bA, hT2 hb hg, p0, p1, p2, p3, fun _ => rfl, p6, p7, fun h => absurd (show L 8 = true from h) (by intro hh; have a8 := k8 hh; have a5 := k5 (by simp [a8]); simp [hk] at a5), fun h => absurd (show L 9 = true from h) (by intro hh; have a9 := k9 hh; have a8 := k8 (by simp [a9]); have a5 := k5 (by simp [a8]); simp [hk] at a5), fun h => absurd (show L 10 = true from h) (by intro hh; have a10 := k10 hh; have a9 := k9 (by simp [a10]); have a8 := k8 (by simp [a9]); have a5 := k5 (by simp [a8]); simp [hk] at a5), fun h => absurd (show L 11 = true from h) (by intro hh; have a11 := k11 hh; have a9 := k9 (by simp [a11]); have a8 := k8 (by simp [a9]); have a5 := k5 (by simp [a8]); simp [hk] at a5), fun h => absurd (show L 12 = true from h) (by intro hh; have a12 := k12 hh; have a10 := k10 (by simp [a12]); have a9 := k9 (by simp [a10]); have a8 := k8 (by simp [a9]); have a5 := k5 (by simp [a8]); simp [hk] at a5), fun h => absurd (show L 13 = true from h) (by intro hh; have a13 := k13 hh; have a11 := k11 (by simp [a13]); have a9 := k9 (by simp [a11]); have a8 := k8 (by simp [a9]); have a5 := k5 (by simp [a8]); simp [hk] at a5), fun h0 => ⟨((fsr h0)).1.below hg, ((fsr h0)).2⟩, fun _ => ⟨hO.isStore, hGd, hMd⟩, fun h => absurd (show L 5 = true from h) (by intro hh; have a5 := k5 hh; simp [hk] at a5), fun h => absurd (show L 5 = true from h) (by intro hh; have a5 := k5 hh; simp [hk] at a5)⟩
          · rintro L T u hd hk hcl ⟨sr, sq, bA, hb, p0, p1, p2, p3, p4, p6, p7, p8, p9, p10, p11, p12, p13, fsr, fsq, pa5, bv5⟩ K hK
            simp only [fr, Act.put, List.setIfInBounds_toArray, List.set_cons_zero, List.set_cons_succ, updO] at hK ⊢
            simp [Region.binds] at hd
            have g2 := p2 (by simp [hd])
            have g4 := p4 (by simp [hd])
            have k8 := hcl 8 _ rfl
            simp [Region.binds] at k8
            have k9 := hcl 9 _ rfl
            simp [Region.binds] at k9
            have k10 := hcl 10 _ rfl
            simp [Region.binds] at k10
            have k11 := hcl 11 _ rfl
            simp [Region.binds] at k11
            have k12 := hcl 12 _ rfl
            simp [Region.binds] at k12
            have k13 := hcl 13 _ rfl
            simp [Region.binds] at k13
            have hg : Below u.heap.size u (u.alloc (.cells #[.slice sr.ia sr.il sr.ic, .slice sr.la sr.ll sr.lc, .slice sr.da sr.dl sr.dc, .slice sr.oa sr.ol sr.oc, .slice sq.ia sq.il sq.ic, .slice sq.la sq.ll sq.lc, .slice sq.da sq.dl sq.dc, .slice sq.oa sq.ol sq.oc] 55)) := (Below.refl _ _).alloc (Nat.le_refl _) _
            rw [if_pos (by rfl)]
            simp only [Oper.wpv]
            go_simp
            exact hK _ _ ⟨sr, sq, u.heap.size, (hT2 hb hg), p0, p1, p2, p3, p4, p6, p7, fun h => absurd (show L 8 = true from h) (by intro hh; have a8 := k8 hh; simp [hk] at a8), fun h => absurd (show L 9 = true from h) (by intro hh; have a9 := k9 hh; have a8 := k8 (by simp [a9]); simp [hk] at a8), fun h => absurd (show L 10 = true from h) (by intro hh; have a10 := k10 hh; have a9 := k9 (by simp [a10]); have a8 := k8 (by simp [a9]); simp [hk] at a8), fun h => absurd (show L 11 = true from h) (by intro hh; have a11 := k11 hh; have a9 := k9 (by simp [a11]); have a8 := k8 (by simp [a9]); simp [hk] at a8), fun h => absurd (show L 12 = true from h) (by intro hh; have a12 := k12 hh; have a10 := k10 (by simp [a12]); have a9 := k9 (by simp [a10]); have a8 := k8 (by simp [a9]); simp [hk] at a8), fun h => absurd (show L 13 = true from h) (by intro hh; have a13 := k13 hh; have a11 := k11 (by simp [a13]); have a9 := k9 (by simp [a11]); have a8 := k8 (by simp [a9]); simp [hk] at a8), fun h0 => ⟨((fsr h0)).1.below hg, ((fsr h0)).2⟩, fun h0 => ⟨((fsq h0)).1.below hg, ((fsq h0)).2⟩, fun _ => ⟨rfl, hb.size, by simp⟩, fun _ => two_of (r := sr) (q := sq) (fsr (by simp [hd])).1 (fsr (by simp [hd])).2.1.wf (fsq (by simp [hd])).1 (fsq (by simp [hd])).2.1.wf⟩
          · rintro L T u hd hk hcl ⟨sr, sq, bA, hb, p0, p1, p2, p3, p4, p6, p7, p8, p9, p10, p11, p12, p13, fsr, fsq, pa5, bv5⟩ K hK
            simp only [fr, Act.put, List.setIfInBounds_toArray, List.set_cons_zero, List.set_cons_succ, updO] at hK ⊢
            simp [Region.binds] at hd
            rw [if_pos (by rfl)]
            simp only [Oper.wpv]
            go_simp
            exact hK _ _ ⟨sr, sq, bA, hb, p0, p1, p2, p3, p4, fun _ => rfl, p7, p8, p9, p10, p11, p12, p13, fsr, fsq, pa5, bv5⟩
          · rintro L T u hd hk hcl ⟨sr, sq, bA, hb, p0, p1, p2, p3, p4, p6, p7, p8, p9, p10, p11, p12, p13, fsr, fsq, pa5, bv5⟩ K hK
            simp only [fr, Act.put, List.setIfInBounds_toArray, List.set_cons_zero, List.set_cons_succ, updO] at hK ⊢
            simp [Region.binds] at hd
            rw [if_pos (by rfl)]
            simp only [Oper.wpv]
            go_simp
            exact hK _ _ ⟨sr, sq, bA, hb, p0, p1, p2, p3, p4, p6, fun _ => rfl, p8, p9, p10, p11, p12, p13, fsr, fsq, pa5, bv5⟩
          · rintro L T u hd hk hcl ⟨sr, sq, bA, hb, p0, p1, p2, p3, p4, p6, p7, p8, p9, p10, p11, p12, p13, fsr, fsq, pa5, bv5⟩ K hK
            simp only [fr, Act.put, List.setIfInBounds_toArray, List.set_cons_zero, List.set_cons_succ, updO] at hK ⊢
            simp [Region.binds] at hd
            have g0 := p0 (by simp [hd])
            have g5 := pa5 (by simp [hd])
            have g6 := p6 (by simp [hd])
            have g7 := p7 (by simp [hd])
            have kk0 := hcl 5 _ rfl
            simp [Region.binds] at kk0
            have kk := kk0 (by simp [hd])
            rw [if_pos (by rfl)]
            simp only [Oper.wpv]
            go_simp
            refine (HSc.out sr sq bA u (hT2 hu2 hb) (bv5 (by simp [hd])) (fsr (by simp [kk])).2.1.ok.ok (fsq (by simp [kk])).2.1.ok.ok (fsr (by simp [kk])).2.2 (fsq (by simp [kk])).2.2).mono ?_
            rintro e u1 ⟨rfl, hg⟩
            exact hK _ _ ⟨sr, sq, bA, hT2 hb hg, p0, p1, p2, p3, p4, p6, p7, fun _ => rfl, p9, p10, p11, p12, p13, fun h0 => ⟨((fsr h0)).1.below hg, ((fsr h0)).2⟩, fun h0 => ⟨((fsq h0)).1.below hg, ((fsq h0)).2⟩, fun h0 => ⟨(pa5 h0).1, (pa5 h0).2.1, Nat.lt_of_lt_of_le (pa5 h0).2.2 hg.size⟩, fun h0 => (bv5 h0).below hg⟩
          · rintro L T u hd hk hcl ⟨sr, sq, bA, hb, p0, p1, p2, p3, p4, p6, p7, p8, p9, p10, p11, p12, p13, fsr, fsq, pa5, bv5⟩ K hK
            simp only [fr, Act.put, List.setIfInBounds_toArray, List.set_cons_zero, List.set_cons_succ, updO] at hK ⊢
            simp [Region.binds] at hd
            have g8 := p8 (by simp [hd])
            rw [if_pos (by rfl)]
            simp only [Oper.wpv]
            go_simp
            exact hK _ _ ⟨sr, sq, bA, hb, p0, p1, p2, p3, p4, p6, p7, p8, fun _ => rfl, p10, p11, p12, p13, fsr, fsq, pa5, bv5⟩
          · rintro L T u hd hk hcl ⟨sr, sq, bA, hb, p0, p1, p2, p3, p4, p6, p7, p8, p9, p10, p11, p12, p13, fsr, fsq, pa5, bv5⟩ K hK
            simp only [fr, Act.put, List.setIfInBounds_toArray, List.set_cons_zero, List.set_cons_succ, updO] at hK ⊢
            simp [Region.binds] at hd
            have g9 := p9 (by simp [hd])
            rw [if_pos (by rfl)]
            simp only [Oper.wpv]
            go_simp
            exact hK _ _ ⟨sr, sq, bA, hb, p0, p1, p2, p3, p4, p6, p7, p8, p9, fun _ => rfl, p11, p12, p13, fsr, fsq, pa5, bv5⟩
          · rintro L T u hd hk hcl ⟨sr, sq, bA, hb, p0, p1, p2, p3, p4, p6, p7, p8, p9, p10, p11, p12, p13, fsr, fsq, pa5, bv5⟩ K hK
            simp only [fr, Act.put, List.setIfInBounds_toArray, List.set_cons_zero, List.set_cons_succ, updO] at hK ⊢
            simp [Region.binds] at hd
            have g9 := p9 (by simp [hd])
            rw [if_pos (by rfl)]
            simp only [Oper.wpv]
            go_simp
            exact hK _ _ ⟨sr, sq, bA, hb, p0, p1, p2, p3, p4, p6, p7, p8, p9, p10, fun _ => rfl, p12, p13, fsr, fsq, pa5, bv5⟩
          · rintro L T u hd hk hcl ⟨sr, sq, bA, hb, p0, p1, p2, p3, p4, p6, p7, p8, p9, p10, p11, p12, p13, fsr, fsq, pa5, bv5⟩ K hK
            simp only [fr, Act.put, List.setIfInBounds_toArray, List.set_cons_zero, List.set_cons_succ, updO] at hK ⊢
            simp [Region.binds] at hd
            have g10 := p10 (by simp [hd])
            rw [if_pos (by rfl)]
            simp only [Oper.wpv]
            go_simp
            exact hK _ _ ⟨sr, sq, bA, hb, p0, p1, p2, p3, p4, p6, p7, p8, p9, p10, p11, fun _ => rfl, p13, fsr, fsq, pa5, bv5⟩
          · rintro L T u hd hk hcl ⟨sr, sq, bA, hb, p0, p1, p2, p3, p4, p6, p7, p8, p9, p10, p11, p12, p13, fsr, fsq, pa5, bv5⟩ K hK
            simp only [fr, Act.put, List.setIfInBounds_toArray, List.set_cons_zero, List.set_cons_succ, updO] at hK ⊢
            simp [Region.binds] at hd
            have g11 := p11 (by simp [hd])
            rw [if_pos (by rfl)]
            simp only [Oper.wpv]
            go_simp
            exact hK _ _ ⟨sr, sq, bA, hb, p0, p1, p2, p3, p4, p6, p7, p8, p9, p10, p11, p12, fun _ => rfl, fsr, fsq, pa5, bv5⟩
        · rintro L T u hl ⟨sr, sq, bA, hb, p0, p1, p2, p3, p4, p6, p7, p8, p9, p10, p11, p12, p13, fsr, fsq, pa5, bv5⟩
          simp only [fr, Act.put, List.setIfInBounds_toArray, List.set_cons_zero, List.set_cons_succ]
          have h5 := p12 (hl 12 (by decide))
          have h6 := p13 (hl 13 (by decide))
          have hu3 : Below Y.heap.size Y u := hT2 hu2 hb
          have hwu := (KV.out u hu3).2.2.2.2.2.2
          clear p0 p1 p2 p3 p4 p6 p7 p8 p9 p10 p11 p12 p13 fsr fsq pa5 bv5 HSc hb hu2 HX KV KR0 KR1 KR2
          rw [h5, h6]
          clear h5 h6
  
          go_wp2
          go_ret
          refine ⟨ret_bool ?_, hwu⟩
          rw [Go.ByteArray.toList_eq]
          decide
end Go.Proofs.YtgohpgollpjlnaaDoor.Cn
