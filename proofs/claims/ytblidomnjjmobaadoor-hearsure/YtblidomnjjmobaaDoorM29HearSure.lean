/- Texts of this claim, one behind the other. -/
import Derived.Test.YtblidomnjjmobaaDoorM28HearSure
import Derived.Test.YtblidomnjjmobaaDoorM26HearSure
import Derived.Test.YtblidomnjjmobaaDoorM27HearSure
import Derived.Lib.QuietBelow
/- What End leaves: of a transaction that wrote one key; of any. -/
namespace Go.Proofs.YtblidomnjjmobaaDoor.St
open Go.ChangeShapes Go.WideShapes Go.ChangeAt Go.RowKit
set_option linter.unusedVariables false

theorem wf_of {n : Int} (h1 : -9223372036854775808 ≤ n) (h2 : n ≤ 9223372036854775807) : (Lit.int .i64 n).wf = true := by
  simp [Lit.wf, IntKind.min, IntKind.max, IntKind.signed, IntKind.bits]
  omega
theorem txWf_of {t : Int × Int} (h : txOK t = true) : TxWf t := by
  simp only [txOK, Bool.and_eq_true] at h
  have h1 := inR_of h.1
  have h2 := inR_of h.2
  exact ⟨wf_of (by omega) (by omega), wf_of (by omega) (by omega)⟩
theorem OKP.wf {s : SV} (h : OKP s.data) : ∀ t ∈ s.over, TxWf t := fun t ht => txWf_of (h.ovt t ht)
theorem wOf_one {p : PS} {x : Int × Int} {k va ask : Int} (hF : Fresh p x) : (p.locks ++ [(⟨x, k, true, va, ask⟩ : LkV)]).filter (wOf x) = [⟨x, k, true, va, ask⟩] := by
  rw [List.filter_append]
  have : p.locks.filter (wOf x) = [] := List.filter_eq_nil_iff.2 fun o ho => by simp [wOf, hF.nl o ho]
  rw [this]
  simp [wOf]
theorem end_err {s : SV} {x : Int × Int} {yes : Bool} (ho : OKP s.data) (hx : txOK x = true) : endErr s x yes = 0 := by
  unfold endErr
  rw [if_pos ho.ok, if_pos hx]
theorem end_data {s : SV} {x : Int × Int} {yes : Bool} (ho : OKP s.data) (hx : txOK x = true) : endData s x yes = ⟨if yes then putAll s.items (s.locks.filter (wOf x)) else s.items, keep (ofT x) s.locks, keep (dbT x) s.doubts, if x ∈ s.over then s.over else s.over ++ [x]⟩ := by
  unfold endData
  rw [if_pos (end_err ho hx)]
theorem end_plus {p : PS} {u : SV} {x : Int × Int} {k va ask : Int} {yes : Bool} (hF : Fresh p x) (hP : Plus p u.data ⟨x, k, true, va, ask⟩) (ho : OKP u.data) (hver : ∀ y ∈ p.items, y.version ≤ 1048000) :
    endErr u x yes = 0 ∧ OKP (endData u x yes) ∧ (endData u x yes).items = (if yes then putI k va p.items else p.items) ∧ (endData u x yes).locks = p.locks ∧ (endData u x yes).over = p.over ++ [x] := by
  have hE := end_err (yes := yes) ho hF.okx
  have el : u.locks = p.locks ++ [⟨x, k, true, va, ask⟩] := hP.locks
  have ei : u.items = p.items := hP.items
  have eo : u.over = p.over := hP.over
  refine ⟨hE, (end_ok hE (v := 1048000) (by omega) (by omega) (by rw [ei]; exact hver)).1, ?_, ?_, ?_⟩
  all_goals rw [end_data ho hF.okx]
  · show (if yes then putAll u.items (u.locks.filter (wOf x)) else u.items) = _
    rw [ei, el, wOf_one hF]
    rfl
  · show keep (ofT x) u.locks = p.locks
    rw [el]
    unfold keep
    rw [List.filter_append, List.filter_eq_self.2 (fun o h => by simp [ofT, hF.nl o h])]
    simp [ofT]
  · show (if x ∈ u.over then u.over else u.over ++ [x]) = p.over ++ [x]
    rw [eo, if_neg hF.nov]
/-- Who is over is over. -/
theorem end_again {s : SV} {x : Int × Int} {yes : Bool} (ho : OKP s.data) (hx : txOK x = true) (hver : ∀ y ∈ s.items, y.version ≤ 1048000) {u : SV} (hd : u.data = endData s x yes) (no : Bool) :
    OKP u.data ∧ x ∈ u.over ∧ (∀ k ∈ u.locks, k.t ≠ x) ∧ endErr u x no = 0 ∧ endData u x no = u.data ∧ u.locks = keep (ofT x) s.locks ∧ (u.over = s.over ∨ u.over = s.over ++ [x]) := by
  have hE := end_err (yes := yes) ho hx
  have hok : OKP u.data := by rw [hd]; exact (end_ok hE (v := 1048000) (by omega) (by omega) hver).1
  rw [end_data ho hx] at hd
  have el : u.locks = keep (ofT x) s.locks := congrArg PS.locks hd
  have ed : u.doubts = keep (dbT x) s.doubts := congrArg PS.doubts hd
  have eo : u.over = if x ∈ s.over then s.over else s.over ++ [x] := congrArg PS.over hd
  have hin : x ∈ u.over := by
    rw [eo]
    split
    · assumption
    · simp
  have hno : ∀ k ∈ u.locks, k.t ≠ x := by
    rw [el]
    intro k hk
    have := (mem_keep.1 hk).2
    simpa [ofT] using this
  refine ⟨hok, hin, hno, end_err hok hx, ?_, el, ?_⟩
  · rw [end_data hok hx]
    have h1 : u.locks.filter (wOf x) = [] := List.filter_eq_nil_iff.2 fun o h => by simp [wOf, hno o h]
    have h2 : keep (ofT x) u.locks = u.locks := List.filter_eq_self.2 fun o h => by simp [ofT, hno o h]
    have h3 : keep (dbT x) u.doubts = u.doubts := by
      rw [ed]
      unfold keep
      rw [List.filter_filter]
      congr 1
      funext d
      cases dbT x d <;> rfl
    rw [h1, h2, h3, if_pos hin]
    show (⟨if no then u.items else u.items, _, _, _⟩ : PS) = _
    rw [ite_self]
    rfl
  · rw [eo]
    split
    · exact .inl rfl
    · exact .inr rfl
end Go.Proofs.YtblidomnjjmobaaDoor.St
/- What hearing makes of two stores at a config of two labels, on plain data. -/
namespace Go.Proofs.YtblidomnjjmobaaDoor.Pt
open Go.ChangeShapes Go.WideShapes Go.ChangeAt Go.RowKit
open Go.Proofs.YtblidomnjjmobaaDoor.St (SV PS IsStore IsRow storeOK TxWf BoxN boxn_new OwnStore flat isOne own_isRow isRow_nil IsRaws Gd OKP cntErr cntIs endErr endData txOK wOf ofT readVal readVer readErr readData peekVal peekVer peekErr writeErr writeData stillIs refErr)
set_option linter.unusedVariables false

theorem site_two {l : Int} {r q : SV} (h1 : storeOK r = true) (h2 : storeOK q = true) (h3 : 0 ≤ l) (h4 : l ≤ 1) : siteErr 1 LS2 3 l 0 2 [r, q] = 0 := by
  unfold siteErr
  rw [if_pos (cfg_two (by omega) (by omega) (by omega) (by omega)), if_pos (by simp [plc, LS2]; omega), if_pos (inR_true (by omega) (by omega)), if_pos (by decide), if_pos (by simp [h1, h2])]
theorem cfg2 : cfgFault 1 LS2 3 = 0 := cfg_two (by omega) (by omega) (by omega) (by omega)
theorem inT {n lo hi : Int} (h1 : lo ≤ n) (h2 : n ≤ hi) : inR n lo hi = true := inR_true h1 h2
theorem cnt_end2 {s q : SV} {t : Int × Int} {yes : Bool} (he : endErr s t yes = 0) (hd : q.data = endData s t yes) : cntIs q t = 0 := by
  unfold cntIs
  split
  · have hl : q.locks = (endData s t yes).locks := congrArg PS.locks hd
    have : q.locks.filter (wOf t) = [] := by
      rw [hl]
      unfold endData
      rw [if_pos he]
      rw [List.filter_eq_nil_iff]
      intro k hk
      have := (St.mem_keep.1 hk).2
      simp only [ofT, decide_eq_false_iff_not] at this
      simp [wOf, this]
    rw [this]; rfl
  · rfl
theorem cnt_nn (s : SV) (t : Int × Int) : 0 ≤ cntIs s t ∧ cntIs s t ≤ s.locks.length := by
  unfold cntIs
  split
  · exact ⟨by omega, by have := List.length_filter_le (wOf t) s.locks; omega⟩
  · exact ⟨by omega, by omega⟩
/-- A word that is decided is heard. -/
theorem decide_two {r : SV} {n : Int} {yes : Bool} (h1 : storeOK r = true) (n1 : 1 ≤ n) (n2 : n ≤ 1048576) : hearErr 1 LS2 3 0 0 2 [r, SV.nil] ⟨4, 0, 0, 0, n, 0, 0, 0, 0, 0, yes, 0⟩ = 0 := by
  have hm : msgFault 1 LS2 3 ⟨4, 0, 0, 0, n, 0, 0, 0, 0, 0, yes, 0⟩ = 0 := by
    refine mf_ok cfg2 rfl ?_ ?_
    · unfold msgRange txnOK
      rw [inT n1 n2]
      cases yes <;> rfl
    · cases yes <;> rfl
  unfold hearErr
  rw [if_pos (site_two h1 nil_ok (by omega) (by omega)), if_pos hm, if_pos rfl, if_neg (by simp), if_pos (by simp)]
theorem ov2 {r q : SV} (h1 : r.ol * 16 ≤ 140737488351232) (h2 : q.ol * 16 ≤ 140737488351232) : ∀ i, i < 2 → (([r, q] : List SV).getD i default).ol * 16 ≤ 140737488351232 := fun i hi => by
  rcases (by omega : i = 0 ∨ i = 1) with rfl | rfl
  · exact h1
  · exact h2
theorem ol_of {w : World} {s : SV} (h : IsStore w s) {k : Nat} (hk : s.over.length ≤ k) (hk2 : k * 16 ≤ 140737488351232) : s.ol * 16 ≤ 140737488351232 := by
  have : s.over.length = s.ol := h.over.1
  have : s.ol ≤ k := by omega
  exact Nat.le_trans (Nat.mul_le_mul_right _ this) hk2
end Go.Proofs.YtblidomnjjmobaaDoor.Pt
/- The contract of the function that HearSure asks with: is what was read of a lower label as it was? -/
namespace Go.Proofs.YtblidomnjjmobaaDoor.Pt
open Go.ChangeShapes Go.WideShapes Go.ChangeAt Go.RowKit
open Go.Proofs.YtblidomnjjmobaaDoor.St (SV PS IsStore IsRow storeOK TxWf BoxN boxn_new OwnStore flat isOne own_isRow isRow_nil IsRaws Gd OKP cntErr cntIs endErr endData txOK wOf ofT readVal readVer readErr readData peekVal peekVer peekErr writeErr writeData stillIs refErr)
set_option linter.unusedVariables false

theorem check_down {r : SV} {n k : Int} (h1 : storeOK r = true) (n1 : 0 ≤ n) (n2 : n ≤ 1048576) (k1 : 0 ≤ k) (k2 : k ≤ 7) : hearErr 1 LS2 3 1 0 2 [r, SV.nil] ⟨3, 0, 0, 0, 1, 0, k, 0, n, 0, false, 0⟩ = 0 := by
  have hm : msgFault 1 LS2 3 ⟨3, 0, 0, 0, 1, 0, k, 0, n, 0, false, 0⟩ = 0 := by
    refine mf_ok cfg2 rfl ?_ ?_
    · unfold msgRange txnOK partsOK
      simp only [MV.parts, topL, inTops, inT n1 n2, inT k1 k2]
      rfl
    · simp [msgForm, MV.parts, mHasOf, mHas, hasAll, bit]
  have ha : abvAt LS2 1 0 = true := by decide
  unfold hearErr
  rw [if_pos (site_two h1 nil_ok (by omega) (by omega)), if_pos hm, if_pos rfl, if_pos (by simp)]
  exact if_pos ha
set_option maxRecDepth 100000 in
set_option maxHeartbeats 4000000 in
theorem sure_any (g0 bc bm : Nat) (s : SV) (k n : Int) (w : World) (cb : BoxN w bc 3 [.int .i64 1, .slice (some ⟨g0, 0, none⟩) 2 2, .int .i64 3]) (mb : BoxN w bm 12 [.int .i64 3, .int .i64 0, .int .i64 0, .int .i64 0, .int .i64 1, .int .i64 0, .int .i64 k, .int .i64 0, .int .i64 n, .int .i64 0, .bool false, .int .i64 0]) (hl : IsLabs w (some ⟨g0, 0, none⟩) 2 2 LS2) (hS : IsStore w s) (hok : storeOK s = true) (hwf : ∀ t ∈ s.over, TxWf t) (h4 : s.ol * 16 ≤ 140737488351232) (n1 : 0 ≤ n) (n2 : n ≤ 1048576) (k1 : 0 ≤ k) (k2 : k ≤ 7) (hHa : HasAt w 0 mHas) (hTo : TopsAt w) :
    Calls Tryd.prog 21 #[s.val, .pointer (some ⟨bc, 0, none⟩), .pointer (some ⟨bm, 0, none⟩)] w fun e w' => e = .returned (.bool (peekErr s k == 0 && peekVer s k == n)) ∧ Below w.heap.size w w' := by
  have hHr := fun sa sc w' h1 h2 h3 h4' => hear_any 1 3 (some ⟨g0, 0, none⟩) 2 2 LS2 1 0 sa 2 sc [s, SV.nil] none 0 0 [] 6000 ⟨3, 0, 0, 0, 1, 0, k, 0, n, 0, false, 0⟩ w' h1 h2 (isRow_nil _ _ _) (by omega) (ov2 (r := s) (q := SV.nil) h4 (by decide)) h3 h4'
  have hE1 := check_down (r := s) (n := n) (k := k) hok n1 n2 k1 k2
  have HD1 : Hid (hearD 1 LS2 3 1 0 2 [s, SV.nil] [] 6000 ⟨3, 0, 0, 0, 1, 0, k, 0, n, 0, false, 0⟩ = ⟨SV.nil.data, [⟨7, 0, 0, 0, 1, 0, k, 0, n, 0, peekErr s k == 0 && peekVer s k == n, 0⟩], [], []⟩) := by
    show _ = _
    unfold hearD
    rw [if_pos hE1]
    show checkD 1 SV.nil s ⟨3, 0, 0, 0, 1, 0, k, 0, n, 0, false, 0⟩ ⟨SV.nil.data, [], [], []⟩ = _
    unfold checkD sureM
    simp
  rw [hE1] at hHr
  obtain ⟨SY, eSY⟩ : ∃ x, x = (peekErr s k == 0 && peekVer s k == n) := ⟨_, rfl⟩
  rw [← eSY] at HD1 ⊢
  clear eSY hE1
  have hgT : 1 < w.heap.size := World.block_lt_of_cell? w _ hTo.1
  have hgM : 0 < w.heap.size := hHa.lt (by decide)
  have KT : Hid (∀ U, Below w.heap.size w U → HasAt U 0 mHas ∧ TopsAt U) := fun U hU => ⟨hHa.below hU hgM, hTo.below hU hgT⟩
  clear hHa hTo hgT hgM
  have hTS := fun (u : World) (h : IsStore u s) => two_stores (r := s) h hwf
  obtain ⟨ra0, rn0, rc0, ra1, rn1, rc1, ra2, rn2, rc2, ra3, rn3, rc3, ri, rl, rd, ro⟩ := s
  simp only [SV.val, MV.val] at hHr hTS ⊢
  obtain ⟨W, hW⟩ : ∃ W : World, W = w.alloc (.cells #[.slice ra0 rn0 rc0, .slice ra1 rn1 rc1, .slice ra2 rn2 rc2, .slice ra3 rn3 rc3] 41) := ⟨_, rfl⟩
  have bw : Below w.heap.size w W := by rw [hW]; exact (Below.refl _ _).alloc (Nat.le_refl _) _
  have sb : BoxN W w.heap.size 4 [.slice ra0 rn0 rc0, .slice ra1 rn1 rc1, .slice ra2 rn2 rc2, .slice ra3 rn3 rc3] := by rw [hW]; exact boxn_new w #[.slice ra0 rn0 rc0, .slice ra1 rn1 rc1, .slice ra2 rn2 rc2, .slice ra3 rn3 rc3] 41 4 rfl
  replace cb := cb.below bw cb.lt
  replace mb := mb.below bw mb.lt
  replace hl := hl.below bw
  replace hS := hS.below bw
  show Calls Tryd.prog 21 #[_, .pointer (some ⟨bc, 0, none⟩), .pointer (some ⟨bm, 0, none⟩)] w _
  go_enter Tryd.func21, Tryd.ntmps21
  go_upto_region 1 with (fail)
  rw [← hW]
  clear hW
  have cb_0 : W.cell? ⟨bc, 0, none⟩ = some (.int .i64 1) := (cb.c 0 (by decide)).1
  have cb_1 : W.cell? ⟨bc, 1, none⟩ = some (.slice (some ⟨g0, 0, none⟩) 2 2) := (cb.c 1 (by decide)).1
  have cb_2 : W.cell? ⟨bc, 2, none⟩ = some (.int .i64 3) := (cb.c 2 (by decide)).1
  have cb_z := cb.lt
  have mb_0 : W.cell? ⟨bm, 0, none⟩ = some (.int .i64 3) := (mb.c 0 (by decide)).1
  have mb_1 : W.cell? ⟨bm, 1, none⟩ = some (.int .i64 0) := (mb.c 1 (by decide)).1
  have mb_2 : W.cell? ⟨bm, 2, none⟩ = some (.int .i64 0) := (mb.c 2 (by decide)).1
  have mb_3 : W.cell? ⟨bm, 3, none⟩ = some (.int .i64 0) := (mb.c 3 (by decide)).1
  have mb_4 : W.cell? ⟨bm, 4, none⟩ = some (.int .i64 1) := (mb.c 4 (by decide)).1
  have mb_5 : W.cell? ⟨bm, 5, none⟩ = some (.int .i64 0) := (mb.c 5 (by decide)).1
  have mb_6 : W.cell? ⟨bm, 6, none⟩ = some (.int .i64 k) := (mb.c 6 (by decide)).1
  have mb_7 : W.cell? ⟨bm, 7, none⟩ = some (.int .i64 0) := (mb.c 7 (by decide)).1
  have mb_8 : W.cell? ⟨bm, 8, none⟩ = some (.int .i64 n) := (mb.c 8 (by decide)).1
  have mb_9 : W.cell? ⟨bm, 9, none⟩ = some (.int .i64 0) := (mb.c 9 (by decide)).1
  have mb_10 : W.cell? ⟨bm, 10, none⟩ = some (.bool false) := (mb.c 10 (by decide)).1
  have mb_11 : W.cell? ⟨bm, 11, none⟩ = some (.int .i64 0) := (mb.c 11 (by decide)).1
  have mb_z := mb.lt
  have sb_0 : W.cell? ⟨w.heap.size, 0, none⟩ = some (.slice ra0 rn0 rc0) := (sb.c 0 (by decide)).1
  have sb_1 : W.cell? ⟨w.heap.size, 1, none⟩ = some (.slice ra1 rn1 rc1) := (sb.c 1 (by decide)).1
  have sb_2 : W.cell? ⟨w.heap.size, 2, none⟩ = some (.slice ra2 rn2 rc2) := (sb.c 2 (by decide)).1
  have sb_3 : W.cell? ⟨w.heap.size, 3, none⟩ = some (.slice ra3 rn3 rc3) := (sb.c 3 (by decide)).1
  have sb_z := sb.lt
  obtain ⟨Y1, eY1⟩ : ∃ X : World, X = W.alloc (.cells #[.slice ra0 rn0 rc0, .slice ra1 rn1 rc1, .slice ra2 rn2 rc2, .slice ra3 rn3 rc3, .slice none 0 0, .slice none 0 0, .slice none 0 0, .slice none 0 0] 41) := ⟨_, rfl⟩
  have hSS : IsStores Y1 (some ⟨W.heap.size, 0, none⟩) 2 2 [⟨ra0, rn0, rc0, ra1, rn1, rc1, ra2, rn2, rc2, ra3, rn3, rc3, ri, rl, rd, ro⟩, SV.nil] := by rw [eY1]; exact hTS W hS
  have bY1 : Below W.heap.size W Y1 := by rw [eY1]; exact (Below.refl _ _).alloc (Nat.le_refl _) _
  have hKT := KT.out _ (bw.trans (bY1.mono bw.size))
  go_upto_region 2 with (go_at_call 13; rw [← eY1]; refine (hHr _ _ _ (hl.below bY1) hSS hKT.1 hKT.2).mono ?_; rintro e w5 ⟨⟨⟨va0, vn0, vc0, va1, vn1, vc1, va2, vn2, vc2, va3, vn3, vc3, vi, vl, vd, vo⟩, va4, vn4, vc4, va5, vn5, vc5, va6, vn6, vc6, vms, vrs, vns⟩, rfl, hI, hd, hb5, _⟩; simp only [AnsV.val])
  clear hHr hSS eY1 hKT
  have hc5 : Below W.heap.size W w5 := bY1.trans (hb5.mono bY1.size)
  clear cb_0 cb_1 cb_2 cb_z mb_0 mb_1 mb_2 mb_3 mb_4 mb_5 mb_6 mb_7 mb_8 mb_9 mb_10 mb_11 mb_z sb_0 sb_1 sb_2 sb_3 sb_z
  replace cb := cb.below hc5 cb.lt
  replace mb := mb.below hc5 mb.lt
  replace sb := sb.below hc5 sb.lt
  replace bw := bw.trans (hc5.mono bw.size)
  obtain ⟨X1, eX1⟩ : ∃ X : World, X = w5.alloc (.cells #[.slice va0 vn0 vc0, .slice va1 vn1 vc1, .slice va2 vn2 vc2, .slice va3 vn3 vc3, .slice va4 vn4 vc4, .slice va5 vn5 vc5, .slice va6 vn6 vc6] 48) := ⟨_, rfl⟩
  have ab : BoxN X1 w5.heap.size 7 [.slice va0 vn0 vc0, .slice va1 vn1 vc1, .slice va2 vn2 vc2, .slice va3 vn3 vc3, .slice va4 vn4 vc4, .slice va5 vn5 vc5, .slice va6 vn6 vc6] := by rw [eX1]; exact boxn_new w5 #[.slice va0 vn0 vc0, .slice va1 vn1 vc1, .slice va2 vn2 vc2, .slice va3 vn3 vc3, .slice va4 vn4 vc4, .slice va5 vn5 vc5, .slice va6 vn6 vc6] 48 7 rfl
  have bX1 : Below w5.heap.size w5 X1 := by rw [eX1]; exact (Below.refl _ _).alloc (Nat.le_refl _) _
  rw [← eX1]
  clear eX1
  replace cb := cb.below bX1 cb.lt
  replace mb := mb.below bX1 mb.lt
  replace sb := sb.below bX1 sb.lt
  replace bw := bw.trans (bX1.mono bw.size)
  replace hI := hI.below bX1
  rw [HD1.out] at hd
  have em : vms = [⟨7, 0, 0, 0, 1, 0, k, 0, n, 0, SY, 0⟩] := congrArg AD.ms hd
  have hml : vn4 = 1 := by have := hI.ms.1; simp only [] at this; rw [em] at this; exact this.symm
  clear hd HD1
  subst em
  subst hml
  have hMa := hI.ms
  simp only [] at hMa
  clear hI
  obtain ⟨m1, mo, rfl, zm1, hmc⟩ := hMa.2.2.2.2 (by omega)
  have p0 := hmc 0 (by omega) 0 (by decide)
  have p10 := hmc 0 (by omega) 10 (by decide)
  simp only [List.getD_cons_zero, mcells, List.getElem?_cons_zero, List.getElem?_cons_succ, Nat.zero_mul, Nat.add_zero] at p0 p10
  clear hmc hMa
  have ab_4 : X1.cell? ⟨w5.heap.size, 4, none⟩ = some (.slice (some ⟨m1, mo, none⟩) 1 vc4) := (ab.c 4 (by decide)).1
  have ab_z := ab.lt
  cases SY
  all_goals
    first
      | (go_wp2; done)
      | go_quiet (fail)
      | skip
  all_goals go_wp2
  all_goals
    go_ret
    exact ⟨rfl, by first | exact bw | exact bw.trans ((below_drewN (Below.refl _ _) nq).mono bw.size)⟩
end Go.Proofs.YtblidomnjjmobaaDoor.Pt
