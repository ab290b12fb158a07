/- Texts of this claim, one behind the other. -/
import Derived.Test.YtblidomnjjmobaaDoorM28HearDown
import Derived.Test.YtblidomnjjmobaaDoorM26HearDown
import Derived.Test.YtblidomnjjmobaaDoorM27HearDown
import Derived.Test.YtblidomnjjmobaaDoorM12HearDown
import Derived.Deep.Cut
/- What End leaves: of a transaction that wrote one key; of any. -/
namespace Go.Proofs.YtblidomnjjmobaaDoor.St
open Go.ChangeShapes Go.WideShapes Go.ChangeAt Go.RowKit
set_option linter.unusedVariables false

theorem wf_of {n : Int} (h1 : -9223372036854775808 ≤ n) (h2 : n ≤ 9223372036854775807) : (Lit.int .i64 n).wf = true := by
  simp [Lit.wf, IntKind.min, IntKind.max, IntKind.signed, IntKind.bits]
  omega
theorem txWf_of {t : Int × Int} (h : txOK t = true) : TxWf t := by
  simp only [txOK, Bool.and_eq_true] at h
  have h1 := inR_of h.1
  have h2 := inR_of h.2
  exact ⟨wf_of (by omega) (by omega), wf_of (by omega) (by omega)⟩
theorem OKP.wf {s : SV} (h : OKP s.data) : ∀ t ∈ s.over, TxWf t := fun t ht => txWf_of (h.ovt t ht)
theorem wOf_one {p : PS} {x : Int × Int} {k va ask : Int} (hF : Fresh p x) : (p.locks ++ [(⟨x, k, true, va, ask⟩ : LkV)]).filter (wOf x) = [⟨x, k, true, va, ask⟩] := by
  rw [List.filter_append]
  have : p.locks.filter (wOf x) = [] := List.filter_eq_nil_iff.2 fun o ho => by simp [wOf, hF.nl o ho]
  rw [this]
  simp [wOf]
theorem end_err {s : SV} {x : Int × Int} {yes : Bool} (ho : OKP s.data) (hx : txOK x = true) : endErr s x yes = 0 := by
  unfold endErr
  rw [if_pos ho.ok, if_pos hx]
theorem end_data {s : SV} {x : Int × Int} {yes : Bool} (ho : OKP s.data) (hx : txOK x = true) : endData s x yes = ⟨if yes then putAll s.items (s.locks.filter (wOf x)) else s.items, keep (ofT x) s.locks, keep (dbT x) s.doubts, if x ∈ s.over then s.over else s.over ++ [x]⟩ := by
  unfold endData
  rw [if_pos (end_err ho hx)]
theorem end_plus {p : PS} {u : SV} {x : Int × Int} {k va ask : Int} {yes : Bool} (hF : Fresh p x) (hP : Plus p u.data ⟨x, k, true, va, ask⟩) (ho : OKP u.data) (hver : ∀ y ∈ p.items, y.version ≤ 1048000) :
    endErr u x yes = 0 ∧ OKP (endData u x yes) ∧ (endData u x yes).items = (if yes then putI k va p.items else p.items) ∧ (endData u x yes).locks = p.locks ∧ (endData u x yes).over = p.over ++ [x] := by
  have hE := end_err (yes := yes) ho hF.okx
  have el : u.locks = p.locks ++ [⟨x, k, true, va, ask⟩] := hP.locks
  have ei : u.items = p.items := hP.items
  have eo : u.over = p.over := hP.over
  refine ⟨hE, (end_ok hE (v := 1048000) (by omega) (by omega) (by rw [ei]; exact hver)).1, ?_, ?_, ?_⟩
  all_goals rw [end_data ho hF.okx]
  · show (if yes then putAll u.items (u.locks.filter (wOf x)) else u.items) = _
    rw [ei, el, wOf_one hF]
    rfl
  · show keep (ofT x) u.locks = p.locks
    rw [el]
    unfold keep
    rw [List.filter_append, List.filter_eq_self.2 (fun o h => by simp [ofT, hF.nl o h])]
    simp [ofT]
  · show (if x ∈ u.over then u.over else u.over ++ [x]) = p.over ++ [x]
    rw [eo, if_neg hF.nov]
/-- Who is over is over. -/
theorem end_again {s : SV} {x : Int × Int} {yes : Bool} (ho : OKP s.data) (hx : txOK x = true) (hver : ∀ y ∈ s.items, y.version ≤ 1048000) {u : SV} (hd : u.data = endData s x yes) (no : Bool) :
    OKP u.data ∧ x ∈ u.over ∧ (∀ k ∈ u.locks, k.t ≠ x) ∧ endErr u x no = 0 ∧ endData u x no = u.data ∧ u.locks = keep (ofT x) s.locks ∧ (u.over = s.over ∨ u.over = s.over ++ [x]) := by
  have hE := end_err (yes := yes) ho hx
  have hok : OKP u.data := by rw [hd]; exact (end_ok hE (v := 1048000) (by omega) (by omega) hver).1
  rw [end_data ho hx] at hd
  have el : u.locks = keep (ofT x) s.locks := congrArg PS.locks hd
  have ed : u.doubts = keep (dbT x) s.doubts := congrArg PS.doubts hd
  have eo : u.over = if x ∈ s.over then s.over else s.over ++ [x] := congrArg PS.over hd
  have hin : x ∈ u.over := by
    rw [eo]
    split
    · assumption
    · simp
  have hno : ∀ k ∈ u.locks, k.t ≠ x := by
    rw [el]
    intro k hk
    have := (mem_keep.1 hk).2
    simpa [ofT] using this
  refine ⟨hok, hin, hno, end_err hok hx, ?_, el, ?_⟩
  · rw [end_data hok hx]
    have h1 : u.locks.filter (wOf x) = [] := List.filter_eq_nil_iff.2 fun o h => by simp [wOf, hno o h]
    have h2 : keep (ofT x) u.locks = u.locks := List.filter_eq_self.2 fun o h => by simp [ofT, hno o h]
    have h3 : keep (dbT x) u.doubts = u.doubts := by
      rw [ed]
      unfold keep
      rw [List.filter_filter]
      congr 1
      funext d
      cases dbT x d <;> rfl
    rw [h1, h2, h3, if_pos hin]
    show (⟨if no then u.items else u.items, _, _, _⟩ : PS) = _
    rw [ite_self]
    rfl
  · rw [eo]
    split
    · exact .inl rfl
    · exact .inr rfl
end Go.Proofs.YtblidomnjjmobaaDoor.St
/- What hearing makes of two stores at a config of two labels, on plain data. -/
namespace Go.Proofs.YtblidomnjjmobaaDoor.Pt
open Go.ChangeShapes Go.WideShapes Go.ChangeAt Go.RowKit
open Go.Proofs.YtblidomnjjmobaaDoor.St (SV PS IsStore IsRow storeOK TxWf BoxN boxn_new OwnStore flat isOne own_isRow isRow_nil IsRaws Gd OKP cntErr cntIs endErr endData txOK wOf ofT readVal readVer readErr readData peekVal peekVer peekErr writeErr writeData stillIs refErr)
set_option linter.unusedVariables false

theorem site_two {l : Int} {r q : SV} (h1 : storeOK r = true) (h2 : storeOK q = true) (h3 : 0 ≤ l) (h4 : l ≤ 1) : siteErr 1 LS2 3 l 0 2 [r, q] = 0 := by
  unfold siteErr
  rw [if_pos (cfg_two (by omega) (by omega) (by omega) (by omega)), if_pos (by simp [plc, LS2]; omega), if_pos (inR_true (by omega) (by omega)), if_pos (by decide), if_pos (by simp [h1, h2])]
theorem cfg2 : cfgFault 1 LS2 3 = 0 := cfg_two (by omega) (by omega) (by omega) (by omega)
theorem inT {n lo hi : Int} (h1 : lo ≤ n) (h2 : n ≤ hi) : inR n lo hi = true := inR_true h1 h2
theorem cnt_end2 {s q : SV} {t : Int × Int} {yes : Bool} (he : endErr s t yes = 0) (hd : q.data = endData s t yes) : cntIs q t = 0 := by
  unfold cntIs
  split
  · have hl : q.locks = (endData s t yes).locks := congrArg PS.locks hd
    have : q.locks.filter (wOf t) = [] := by
      rw [hl]
      unfold endData
      rw [if_pos he]
      rw [List.filter_eq_nil_iff]
      intro k hk
      have := (St.mem_keep.1 hk).2
      simp only [ofT, decide_eq_false_iff_not] at this
      simp [wOf, this]
    rw [this]; rfl
  · rfl
theorem cnt_nn (s : SV) (t : Int × Int) : 0 ≤ cntIs s t ∧ cntIs s t ≤ s.locks.length := by
  unfold cntIs
  split
  · exact ⟨by omega, by have := List.length_filter_le (wOf t) s.locks; omega⟩
  · exact ⟨by omega, by omega⟩
/-- A word that is decided is heard. -/
theorem decide_two {r : SV} {n : Int} {yes : Bool} (h1 : storeOK r = true) (n1 : 1 ≤ n) (n2 : n ≤ 1048576) : hearErr 1 LS2 3 0 0 2 [r, SV.nil] ⟨4, 0, 0, 0, n, 0, 0, 0, 0, 0, yes, 0⟩ = 0 := by
  have hm : msgFault 1 LS2 3 ⟨4, 0, 0, 0, n, 0, 0, 0, 0, 0, yes, 0⟩ = 0 := by
    refine mf_ok cfg2 rfl ?_ ?_
    · unfold msgRange txnOK
      rw [inT n1 n2]
      cases yes <;> rfl
    · cases yes <;> rfl
  unfold hearErr
  rw [if_pos (site_two h1 nil_ok (by omega) (by omega)), if_pos hm, if_pos rfl, if_neg (by simp), if_pos (by simp)]
theorem ov2 {r q : SV} (h1 : r.ol * 16 ≤ 140737488351232) (h2 : q.ol * 16 ≤ 140737488351232) : ∀ i, i < 2 → (([r, q] : List SV).getD i default).ol * 16 ≤ 140737488351232 := fun i hi => by
  rcases (by omega : i = 0 ∨ i = 1) with rfl | rfl
  · exact h1
  · exact h2
theorem ol_of {w : World} {s : SV} (h : IsStore w s) {k : Nat} (hk : s.over.length ≤ k) (hk2 : k * 16 ≤ 140737488351232) : s.ol * 16 ≤ 140737488351232 := by
  have : s.over.length = s.ol := h.over.1
  have : s.ol ≤ k := by omega
  exact Nat.le_trans (Nat.mul_le_mul_right _ this) hk2
end Go.Proofs.YtblidomnjjmobaaDoor.Pt
/- The contract of reredoskeep.sameStore: at the same data it returns true, and leaves what was in memory. -/
namespace Go.Proofs.YtblidomnjjmobaaDoor.St
open Go.ChangeShapes Go.WideShapes Go.ChangeAt Go.RowKit
set_option linter.unusedVariables false

set_option maxRecDepth 100000 in
set_option maxHeartbeats 8000000 in
theorem keptStore_any (x y : SV) (w : World) (h : IsStore w x) (h' : IsStore w y) (hd : x.data = y.data) :
    Calls Tryd.prog 18 #[x.val, y.val] w fun e w' => e = .returned (.bool true) ∧ Below w.heap.size w w' := by
  obtain ⟨ia, il, ic, la, ll, lc, da, dl, dc, oa, ol, oc, items, locks, doubts, over⟩ := x
  obtain ⟨ja, jl, jc, ma, ml, mc, ea, el, ec, pa, pl, pc, items', locks', doubts', over'⟩ := y
  simp only [SV.data, PS.mk.injEq] at hd
  obtain ⟨rfl, rfl, rfl, rfl⟩ := hd
  obtain rfl : il = jl := h.items.1.symm.trans h'.items.1
  obtain rfl : ll = ml := h.locks.1.symm.trans h'.locks.1
  obtain rfl : dl = el := h.doubts.1.symm.trans h'.doubts.1
  obtain rfl : ol = pl := h.over.1.symm.trans h'.over.1
  simp only [SV.val]
  have m1 : il ≤ maxLen := Nat.le_trans h.items.2.1 h.items.2.2.1
  have m2 : ll ≤ maxLen := Nat.le_trans h.locks.2.1 h.locks.2.2.1
  have m3 : dl ≤ maxLen := Nat.le_trans h.doubts.2.1 h.doubts.2.2.1
  have m4 : ol ≤ maxLen := Nat.le_trans h.over.2.1 h.over.2.2.1
  unfold maxLen at m1 m2 m3 m4
  obtain ⟨W, hW⟩ : ∃ W : World, W = (w.alloc (.cells #[.slice ia il ic, .slice la ll lc, .slice da dl dc, .slice oa ol oc] 41)).alloc (.cells #[.slice ja il jc, .slice ma ll mc, .slice ea dl ec, .slice pa ol pc] 41) := ⟨_, rfl⟩
  have hB : Below w.heap.size w W := by rw [hW]; exact ((Below.refl _ _).alloc (Nat.le_refl _) _).alloc (by simp) _
  have zW : W.heap.size = w.heap.size + 2 := by rw [hW]; simp
  have z0 : w.heap.size < W.heap.size := by omega
  have z1 : w.heap.size + 1 < W.heap.size := by omega
  clear zW
  have c0 : W.cell? ⟨w.heap.size, 0, none⟩ = some (.slice ia il ic) := by rw [hW]; go_simp
  have d0 : W.cell? ⟨w.heap.size + 1, 0, none⟩ = some (.slice ja il jc) := by rw [hW]; go_simp
  have c1 : W.cell? ⟨w.heap.size, 1, none⟩ = some (.slice la ll lc) := by rw [hW]; go_simp
  have d1 : W.cell? ⟨w.heap.size + 1, 1, none⟩ = some (.slice ma ll mc) := by rw [hW]; go_simp
  have c2 : W.cell? ⟨w.heap.size, 2, none⟩ = some (.slice da dl dc) := by rw [hW]; go_simp
  have d2 : W.cell? ⟨w.heap.size + 1, 2, none⟩ = some (.slice ea dl ec) := by rw [hW]; go_simp
  have c3 : W.cell? ⟨w.heap.size, 3, none⟩ = some (.slice oa ol oc) := by rw [hW]; go_simp
  have d3 : W.cell? ⟨w.heap.size + 1, 3, none⟩ = some (.slice pa ol pc) := by rw [hW]; go_simp
  have KA : Hid (∀ U : World, Below W.heap.size W U → U.cell? ⟨w.heap.size, 0, none⟩ = some (.slice ia il ic) ∧ U.cell? ⟨w.heap.size + 1, 0, none⟩ = some (.slice ja il jc) ∧ U.cell? ⟨w.heap.size, 1, none⟩ = some (.slice la ll lc) ∧ U.cell? ⟨w.heap.size + 1, 1, none⟩ = some (.slice ma ll mc) ∧ U.cell? ⟨w.heap.size, 2, none⟩ = some (.slice da dl dc) ∧ U.cell? ⟨w.heap.size + 1, 2, none⟩ = some (.slice ea dl ec) ∧ U.cell? ⟨w.heap.size, 3, none⟩ = some (.slice oa ol oc) ∧ U.cell? ⟨w.heap.size + 1, 3, none⟩ = some (.slice pa ol pc)) := fun U hU => ⟨(hU.cell (p := ⟨w.heap.size, 0, none⟩) z0).trans c0, (hU.cell (p := ⟨w.heap.size + 1, 0, none⟩) z1).trans d0, (hU.cell (p := ⟨w.heap.size, 1, none⟩) z0).trans c1, (hU.cell (p := ⟨w.heap.size + 1, 1, none⟩) z1).trans d1, (hU.cell (p := ⟨w.heap.size, 2, none⟩) z0).trans c2, (hU.cell (p := ⟨w.heap.size + 1, 2, none⟩) z1).trans d2, (hU.cell (p := ⟨w.heap.size, 3, none⟩) z0).trans c3, (hU.cell (p := ⟨w.heap.size + 1, 3, none⟩) z1).trans d3⟩
  have HS : Hid (∀ U, Below W.heap.size W U → IsStore U ⟨ia, il, ic, la, ll, lc, da, dl, dc, oa, ol, oc, items, locks, doubts, over⟩) := fun U hU => (h.below hB).below hU
  have HS' : Hid (∀ U, Below W.heap.size W U → IsStore U ⟨ja, il, jc, ma, ll, mc, ea, dl, ec, pa, ol, pc, items, locks, doubts, over⟩) := fun U hU => (h'.below hB).below hU
  clear h h'
  go_enter Tryd.func18, Tryd.ntmps18
  go_upto_region 1 with (fail)
  rw [← hW]
  clear hW
  have hb0 := Below.refl W.heap.size W
  go_wp2
  clear c0 c1 c2 c3 d0 d1 d2 d3
  go_loopw [5] (fun i wr => ∃ k : Nat, k ≤ il ∧ i = .int .i64 k ∧ Below W.heap.size W wr) (fun i _ => il - (intOf i).toNat)
  case atStart => exact ⟨0, Nat.zero_le _, rfl, hb0⟩
  case round =>
    obtain ⟨k, hk, rfl, hb⟩ := hrel
    obtain ⟨c0, d0, c1, d1, c2, d2, c3, d3⟩ := KA.out _ hb
    by_cases hlt : k < il
    · have hlt' : (k : Int) < (il : Int) := by omega
      obtain ⟨b1, o1, rfl, _, k1⟩ := (HS.out _ hb).items.2.2.2.2 (by show 0 < il; omega)
      obtain ⟨b2, o2, rfl, _, k2⟩ := (HS'.out _ hb).items.2.2.2.2 (by show 0 < il; omega)
      have e1 := k1 k hlt
      have e2 := k2 k hlt
      simp only [] at e1 e2
      obtain ⟨z, hz⟩ : ∃ z, z = items.getD k default := ⟨_, rfl⟩
      rw [← hz] at e1 e2
      clear hz k1 k2
      obtain ⟨q0, q1, q2⟩ := z
      have x0 := e1 0 (by decide)
      have y0 := e2 0 (by decide)
      have x1 := e1 1 (by decide)
      have y1 := e2 1 (by decide)
      have x2 := e1 2 (by decide)
      have y2 := e2 2 (by decide)
      simp only [ItV.cells, List.getElem?_cons_zero, List.getElem?_cons_succ, Nat.add_zero] at x0 y0 x1 y1 x2 y2
      clear e1 e2
      go_wp2
      go_quiet (fail)
      go_wp2
      go_roundw
      case rel => exact ⟨k + 1, by omega, by go_num, below_drewN hb nq⟩
      case measure => simp [intOf]; omega
    · have hb1 := hb
      go_wp2
      clear c0 c1 c2 c3 d0 d1 d2 d3 hlt hb hk
      go_loopw [6] (fun i wr => ∃ k : Nat, k ≤ ll ∧ i = .int .i64 k ∧ Below W.heap.size W wr) (fun i _ => ll - (intOf i).toNat)
      case atStart => exact ⟨0, Nat.zero_le _, rfl, hb1⟩
      case round =>
        obtain ⟨k, hk, rfl, hb⟩ := hrel
        obtain ⟨c0, d0, c1, d1, c2, d2, c3, d3⟩ := KA.out _ hb
        by_cases hlt : k < ll
        · have hlt' : (k : Int) < (ll : Int) := by omega
          obtain ⟨b1, o1, rfl, _, k1⟩ := (HS.out _ hb).locks.2.2.2.2 (by show 0 < ll; omega)
          obtain ⟨b2, o2, rfl, _, k2⟩ := (HS'.out _ hb).locks.2.2.2.2 (by show 0 < ll; omega)
          have e1 := k1 k hlt
          have e2 := k2 k hlt
          simp only [] at e1 e2
          obtain ⟨z, hz⟩ : ∃ z, z = locks.getD k default := ⟨_, rfl⟩
          rw [← hz] at e1 e2
          clear hz k1 k2
          obtain ⟨⟨q0, q1⟩, q2, q3, q4, q5⟩ := z
          have x0 := e1 0 (by decide)
          have y0 := e2 0 (by decide)
          have x1 := e1 1 (by decide)
          have y1 := e2 1 (by decide)
          have x2 := e1 2 (by decide)
          have y2 := e2 2 (by decide)
          have x3 := e1 3 (by decide)
          have y3 := e2 3 (by decide)
          have x4 := e1 4 (by decide)
          have y4 := e2 4 (by decide)
          have x5 := e1 5 (by decide)
          have y5 := e2 5 (by decide)
          simp only [LkV.cells, List.getElem?_cons_zero, List.getElem?_cons_succ, Nat.add_zero] at x0 y0 x1 y1 x2 y2 x3 y3 x4 y4 x5 y5
          clear e1 e2
          go_wp2
          go_quiet (fail)
          go_wp2
          go_roundw
          case rel => exact ⟨k + 1, by omega, by go_num, below_drewN hb nq⟩
          case measure => simp [intOf]; omega
        · have hb2 := hb
          go_wp2
          clear c0 c1 c2 c3 d0 d1 d2 d3 hlt hb hk
          go_loopw [7] (fun i wr => ∃ k : Nat, k ≤ dl ∧ i = .int .i64 k ∧ Below W.heap.size W wr) (fun i _ => dl - (intOf i).toNat)
          case atStart => exact ⟨0, Nat.zero_le _, rfl, hb2⟩
          case round =>
            obtain ⟨k, hk, rfl, hb⟩ := hrel
            obtain ⟨c0, d0, c1, d1, c2, d2, c3, d3⟩ := KA.out _ hb
            by_cases hlt : k < dl
            · have hlt' : (k : Int) < (dl : Int) := by omega
              obtain ⟨b1, o1, rfl, _, k1⟩ := (HS.out _ hb).doubts.2.2.2.2 (by show 0 < dl; omega)
              obtain ⟨b2, o2, rfl, _, k2⟩ := (HS'.out _ hb).doubts.2.2.2.2 (by show 0 < dl; omega)
              have e1 := k1 k hlt
              have e2 := k2 k hlt
              simp only [] at e1 e2
              obtain ⟨z, hz⟩ : ∃ z, z = doubts.getD k default := ⟨_, rfl⟩
              rw [← hz] at e1 e2
              clear hz k1 k2
              obtain ⟨⟨q0, q1⟩, q2⟩ := z
              have x0 := e1 0 (by decide)
              have y0 := e2 0 (by decide)
              have x1 := e1 1 (by decide)
              have y1 := e2 1 (by decide)
              have x2 := e1 2 (by decide)
              have y2 := e2 2 (by decide)
              simp only [DbV.cells, List.getElem?_cons_zero, List.getElem?_cons_succ, Nat.add_zero] at x0 y0 x1 y1 x2 y2
              clear e1 e2
              go_wp2
              go_quiet (fail)
              go_wp2
              go_roundw
              case rel => exact ⟨k + 1, by omega, by go_num, below_drewN hb nq⟩
              case measure => simp [intOf]; omega
            · have hb3 := hb
              go_wp2
              clear c0 c1 c2 c3 d0 d1 d2 d3 hlt hb hk
              go_loopw [8] (fun i wr => ∃ k : Nat, k ≤ ol ∧ i = .int .i64 k ∧ Below W.heap.size W wr) (fun i _ => ol - (intOf i).toNat)
              case atStart => exact ⟨0, Nat.zero_le _, rfl, hb3⟩
              case round =>
                obtain ⟨k, hk, rfl, hb⟩ := hrel
                obtain ⟨c0, d0, c1, d1, c2, d2, c3, d3⟩ := KA.out _ hb
                by_cases hlt : k < ol
                · have hlt' : (k : Int) < (ol : Int) := by omega
                  obtain ⟨b1, o1, rfl, _, k1⟩ := (HS.out _ hb).over.2.2.2.2 (by show 0 < ol; omega)
                  obtain ⟨b2, o2, rfl, _, k2⟩ := (HS'.out _ hb).over.2.2.2.2 (by show 0 < ol; omega)
                  have e1 := k1 k hlt
                  have e2 := k2 k hlt
                  simp only [] at e1 e2
                  obtain ⟨z, hz⟩ : ∃ z, z = over.getD k default := ⟨_, rfl⟩
                  rw [← hz] at e1 e2
                  clear hz k1 k2
                  obtain ⟨q0, q1⟩ := z
                  have x0 := e1 0 (by decide)
                  have y0 := e2 0 (by decide)
                  have x1 := e1 1 (by decide)
                  have y1 := e2 1 (by decide)
                  simp only [txCells, List.getElem?_cons_zero, List.getElem?_cons_succ, Nat.add_zero] at x0 y0 x1 y1
                  clear e1 e2
                  go_wp2
                  go_quiet (fail)
                  go_wp2
                  go_roundw
                  case rel => exact ⟨k + 1, by omega, by go_num, below_drewN hb nq⟩
                  case measure => simp [intOf]; omega
                · go_wp2
                  go_ret
                  exact ⟨rfl, hB.trans (hb.mono hB.size)⟩
end Go.Proofs.YtblidomnjjmobaaDoor.St
