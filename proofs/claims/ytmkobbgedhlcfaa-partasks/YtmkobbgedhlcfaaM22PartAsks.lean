/- Texts of this claim, one behind the other. -/
import Derived.Test.YtmkobbgedhlcfaaM11PartAsks
import Derived.Deep.Cut
import Derived.Test.YtmkobbgedhlcfaaM14PartAsks
import Derived.Test.YtmkobbgedhlcfaaM21PartAsks
/- The contract of reredoskeep.sameStore: at the same data it returns true, and leaves what was in memory. -/
namespace Go.Proofs.Ytmkobbgedhlcfaa.St
open Go.ChangeShapes Go.WideShapes Go.ChangeAt Go.RowKit
set_option linter.unusedVariables false

set_option maxRecDepth 100000 in
set_option maxHeartbeats 8000000 in
theorem keptStore_any (x y : SV) (w : World) (h : IsStore w x) (h' : IsStore w y) (hd : x.data = y.data) :
    Calls Try.prog 16 #[x.val, y.val] w fun e w' => e = .returned (.bool true) ∧ Below w.heap.size w w' := by
  obtain ⟨ia, il, ic, la, ll, lc, da, dl, dc, oa, ol, oc, items, locks, doubts, over⟩ := x
  obtain ⟨ja, jl, jc, ma, ml, mc, ea, el, ec, pa, pl, pc, items', locks', doubts', over'⟩ := y
  simp only [SV.data, PS.mk.injEq] at hd
  obtain ⟨rfl, rfl, rfl, rfl⟩ := hd
  obtain rfl : il = jl := h.items.1.symm.trans h'.items.1
  obtain rfl : ll = ml := h.locks.1.symm.trans h'.locks.1
  obtain rfl : dl = el := h.doubts.1.symm.trans h'.doubts.1
  obtain rfl : ol = pl := h.over.1.symm.trans h'.over.1
  simp only [SV.val]
  have m1 : il ≤ maxLen := Nat.le_trans h.items.2.1 h.items.2.2.1
  have m2 : ll ≤ maxLen := Nat.le_trans h.locks.2.1 h.locks.2.2.1
  have m3 : dl ≤ maxLen := Nat.le_trans h.doubts.2.1 h.doubts.2.2.1
  have m4 : ol ≤ maxLen := Nat.le_trans h.over.2.1 h.over.2.2.1
  unfold maxLen at m1 m2 m3 m4
  obtain ⟨W, hW⟩ : ∃ W : World, W = (w.alloc (.cells #[.slice ia il ic, .slice la ll lc, .slice da dl dc, .slice oa ol oc] 31)).alloc (.cells #[.slice ja il jc, .slice ma ll mc, .slice ea dl ec, .slice pa ol pc] 31) := ⟨_, rfl⟩
  have hB : Below w.heap.size w W := by rw [hW]; exact ((Below.refl _ _).alloc (Nat.le_refl _) _).alloc (by simp) _
  have zW : W.heap.size = w.heap.size + 2 := by rw [hW]; simp
  have z0 : w.heap.size < W.heap.size := by omega
  have z1 : w.heap.size + 1 < W.heap.size := by omega
  clear zW
  have c0 : W.cell? ⟨w.heap.size, 0, none⟩ = some (.slice ia il ic) := by rw [hW]; go_simp
  have d0 : W.cell? ⟨w.heap.size + 1, 0, none⟩ = some (.slice ja il jc) := by rw [hW]; go_simp
  have c1 : W.cell? ⟨w.heap.size, 1, none⟩ = some (.slice la ll lc) := by rw [hW]; go_simp
  have d1 : W.cell? ⟨w.heap.size + 1, 1, none⟩ = some (.slice ma ll mc) := by rw [hW]; go_simp
  have c2 : W.cell? ⟨w.heap.size, 2, none⟩ = some (.slice da dl dc) := by rw [hW]; go_simp
  have d2 : W.cell? ⟨w.heap.size + 1, 2, none⟩ = some (.slice ea dl ec) := by rw [hW]; go_simp
  have c3 : W.cell? ⟨w.heap.size, 3, none⟩ = some (.slice oa ol oc) := by rw [hW]; go_simp
  have d3 : W.cell? ⟨w.heap.size + 1, 3, none⟩ = some (.slice pa ol pc) := by rw [hW]; go_simp
  have KA : Hid (∀ U : World, Below W.heap.size W U → U.cell? ⟨w.heap.size, 0, none⟩ = some (.slice ia il ic) ∧ U.cell? ⟨w.heap.size + 1, 0, none⟩ = some (.slice ja il jc) ∧ U.cell? ⟨w.heap.size, 1, none⟩ = some (.slice la ll lc) ∧ U.cell? ⟨w.heap.size + 1, 1, none⟩ = some (.slice ma ll mc) ∧ U.cell? ⟨w.heap.size, 2, none⟩ = some (.slice da dl dc) ∧ U.cell? ⟨w.heap.size + 1, 2, none⟩ = some (.slice ea dl ec) ∧ U.cell? ⟨w.heap.size, 3, none⟩ = some (.slice oa ol oc) ∧ U.cell? ⟨w.heap.size + 1, 3, none⟩ = some (.slice pa ol pc)) := fun U hU => ⟨(hU.cell (p := ⟨w.heap.size, 0, none⟩) z0).trans c0, (hU.cell (p := ⟨w.heap.size + 1, 0, none⟩) z1).trans d0, (hU.cell (p := ⟨w.heap.size, 1, none⟩) z0).trans c1, (hU.cell (p := ⟨w.heap.size + 1, 1, none⟩) z1).trans d1, (hU.cell (p := ⟨w.heap.size, 2, none⟩) z0).trans c2, (hU.cell (p := ⟨w.heap.size + 1, 2, none⟩) z1).trans d2, (hU.cell (p := ⟨w.heap.size, 3, none⟩) z0).trans c3, (hU.cell (p := ⟨w.heap.size + 1, 3, none⟩) z1).trans d3⟩
  have HS : Hid (∀ U, Below W.heap.size W U → IsStore U ⟨ia, il, ic, la, ll, lc, da, dl, dc, oa, ol, oc, items, locks, doubts, over⟩) := fun U hU => (h.below hB).below hU
  have HS' : Hid (∀ U, Below W.heap.size W U → IsStore U ⟨ja, il, jc, ma, ll, mc, ea, dl, ec, pa, ol, pc, items, locks, doubts, over⟩) := fun U hU => (h'.below hB).below hU
  clear h h'
  go_enter Try.func16, Try.ntmps16
  go_upto_region 1 with (fail)
  rw [← hW]
  clear hW
  have hb0 := Below.refl W.heap.size W
  go_wp2
  clear c0 c1 c2 c3 d0 d1 d2 d3
  go_loopw [5] (fun i wr => ∃ k : Nat, k ≤ il ∧ i = .int .i64 k ∧ Below W.heap.size W wr) (fun i _ => il - (intOf i).toNat)
  case atStart => exact ⟨0, Nat.zero_le _, rfl, hb0⟩
  case round =>
    obtain ⟨k, hk, rfl, hb⟩ := hrel
    obtain ⟨c0, d0, c1, d1, c2, d2, c3, d3⟩ := KA.out _ hb
    by_cases hlt : k < il
    · have hlt' : (k : Int) < (il : Int) := by omega
      obtain ⟨b1, o1, rfl, _, k1⟩ := (HS.out _ hb).items.2.2.2.2 (by show 0 < il; omega)
      obtain ⟨b2, o2, rfl, _, k2⟩ := (HS'.out _ hb).items.2.2.2.2 (by show 0 < il; omega)
      have e1 := k1 k hlt
      have e2 := k2 k hlt
      simp only [] at e1 e2
      obtain ⟨z, hz⟩ : ∃ z, z = items.getD k default := ⟨_, rfl⟩
      rw [← hz] at e1 e2
      clear hz k1 k2
      obtain ⟨q0, q1, q2⟩ := z
      have x0 := e1 0 (by decide)
      have y0 := e2 0 (by decide)
      have x1 := e1 1 (by decide)
      have y1 := e2 1 (by decide)
      have x2 := e1 2 (by decide)
      have y2 := e2 2 (by decide)
      simp only [ItV.cells, List.getElem?_cons_zero, List.getElem?_cons_succ, Nat.add_zero] at x0 y0 x1 y1 x2 y2
      clear e1 e2
      go_wp2
      go_quiet (fail)
      go_wp2
      go_roundw
      case rel => exact ⟨k + 1, by omega, by go_num, below_drewN hb nq⟩
      case measure => simp [intOf]; omega
    · have hb1 := hb
      go_wp2
      clear c0 c1 c2 c3 d0 d1 d2 d3 hlt hb hk
      go_loopw [6] (fun i wr => ∃ k : Nat, k ≤ ll ∧ i = .int .i64 k ∧ Below W.heap.size W wr) (fun i _ => ll - (intOf i).toNat)
      case atStart => exact ⟨0, Nat.zero_le _, rfl, hb1⟩
      case round =>
        obtain ⟨k, hk, rfl, hb⟩ := hrel
        obtain ⟨c0, d0, c1, d1, c2, d2, c3, d3⟩ := KA.out _ hb
        by_cases hlt : k < ll
        · have hlt' : (k : Int) < (ll : Int) := by omega
          obtain ⟨b1, o1, rfl, _, k1⟩ := (HS.out _ hb).locks.2.2.2.2 (by show 0 < ll; omega)
          obtain ⟨b2, o2, rfl, _, k2⟩ := (HS'.out _ hb).locks.2.2.2.2 (by show 0 < ll; omega)
          have e1 := k1 k hlt
          have e2 := k2 k hlt
          simp only [] at e1 e2
          obtain ⟨z, hz⟩ : ∃ z, z = locks.getD k default := ⟨_, rfl⟩
          rw [← hz] at e1 e2
          clear hz k1 k2
          obtain ⟨⟨q0, q1⟩, q2, q3, q4, q5⟩ := z
          have x0 := e1 0 (by decide)
          have y0 := e2 0 (by decide)
          have x1 := e1 1 (by decide)
          have y1 := e2 1 (by decide)
          have x2 := e1 2 (by decide)
          have y2 := e2 2 (by decide)
          have x3 := e1 3 (by decide)
          have y3 := e2 3 (by decide)
          have x4 := e1 4 (by decide)
          have y4 := e2 4 (by decide)
          have x5 := e1 5 (by decide)
          have y5 := e2 5 (by decide)
          simp only [LkV.cells, List.getElem?_cons_zero, List.getElem?_cons_succ, Nat.add_zero] at x0 y0 x1 y1 x2 y2 x3 y3 x4 y4 x5 y5
          clear e1 e2
          go_wp2
          go_quiet (fail)
          go_wp2
          go_roundw
          case rel => exact ⟨k + 1, by omega, by go_num, below_drewN hb nq⟩
          case measure => simp [intOf]; omega
        · have hb2 := hb
          go_wp2
          clear c0 c1 c2 c3 d0 d1 d2 d3 hlt hb hk
          go_loopw [7] (fun i wr => ∃ k : Nat, k ≤ dl ∧ i = .int .i64 k ∧ Below W.heap.size W wr) (fun i _ => dl - (intOf i).toNat)
          case atStart => exact ⟨0, Nat.zero_le _, rfl, hb2⟩
          case round =>
            obtain ⟨k, hk, rfl, hb⟩ := hrel
            obtain ⟨c0, d0, c1, d1, c2, d2, c3, d3⟩ := KA.out _ hb
            by_cases hlt : k < dl
            · have hlt' : (k : Int) < (dl : Int) := by omega
              obtain ⟨b1, o1, rfl, _, k1⟩ := (HS.out _ hb).doubts.2.2.2.2 (by show 0 < dl; omega)
              obtain ⟨b2, o2, rfl, _, k2⟩ := (HS'.out _ hb).doubts.2.2.2.2 (by show 0 < dl; omega)
              have e1 := k1 k hlt
              have e2 := k2 k hlt
              simp only [] at e1 e2
              obtain ⟨z, hz⟩ : ∃ z, z = doubts.getD k default := ⟨_, rfl⟩
              rw [← hz] at e1 e2
              clear hz k1 k2
              obtain ⟨⟨q0, q1⟩, q2⟩ := z
              have x0 := e1 0 (by decide)
              have y0 := e2 0 (by decide)
              have x1 := e1 1 (by decide)
              have y1 := e2 1 (by decide)
              have x2 := e1 2 (by decide)
              have y2 := e2 2 (by decide)
              simp only [DbV.cells, List.getElem?_cons_zero, List.getElem?_cons_succ, Nat.add_zero] at x0 y0 x1 y1 x2 y2
              clear e1 e2
              go_wp2
              go_quiet (fail)
              go_wp2
              go_roundw
              case rel => exact ⟨k + 1, by omega, by go_num, below_drewN hb nq⟩
              case measure => simp [intOf]; omega
            · have hb3 := hb
              go_wp2
              clear c0 c1 c2 c3 d0 d1 d2 d3 hlt hb hk
              go_loopw [8] (fun i wr => ∃ k : Nat, k ≤ ol ∧ i = .int .i64 k ∧ Below W.heap.size W wr) (fun i _ => ol - (intOf i).toNat)
              case atStart => exact ⟨0, Nat.zero_le _, rfl, hb3⟩
              case round =>
                obtain ⟨k, hk, rfl, hb⟩ := hrel
                obtain ⟨c0, d0, c1, d1, c2, d2, c3, d3⟩ := KA.out _ hb
                by_cases hlt : k < ol
                · have hlt' : (k : Int) < (ol : Int) := by omega
                  obtain ⟨b1, o1, rfl, _, k1⟩ := (HS.out _ hb).over.2.2.2.2 (by show 0 < ol; omega)
                  obtain ⟨b2, o2, rfl, _, k2⟩ := (HS'.out _ hb).over.2.2.2.2 (by show 0 < ol; omega)
                  have e1 := k1 k hlt
                  have e2 := k2 k hlt
                  simp only [] at e1 e2
                  obtain ⟨z, hz⟩ : ∃ z, z = over.getD k default := ⟨_, rfl⟩
                  rw [← hz] at e1 e2
                  clear hz k1 k2
                  obtain ⟨q0, q1⟩ := z
                  have x0 := e1 0 (by decide)
                  have y0 := e2 0 (by decide)
                  have x1 := e1 1 (by decide)
                  have y1 := e2 1 (by decide)
                  simp only [txCells, List.getElem?_cons_zero, List.getElem?_cons_succ, Nat.add_zero] at x0 y0 x1 y1
                  clear e1 e2
                  go_wp2
                  go_quiet (fail)
                  go_wp2
                  go_roundw
                  case rel => exact ⟨k + 1, by omega, by go_num, below_drewN hb nq⟩
                  case measure => simp [intOf]; omega
                · go_wp2
                  go_ret
                  exact ⟨rfl, hB.trans (hb.mono hB.size)⟩
end Go.Proofs.Ytmkobbgedhlcfaa.St
/- The walk of the law PartAsks: at any numbers it returns true and leaves what was in memory. -/
namespace Go.Proofs.Ytmkobbgedhlcfaa.Pt
open Go.ChangeShapes Go.WideShapes Go.ChangeAt Go.RowKit
open Go.Proofs.Ytmkobbgedhlcfaa.St (SV PS IsStore IsRow storeOK TxWf BoxN boxn_new ageErr ageData ageTold toldT IsTxns OwnStore flat Elem isOne own_isRow isRow_nil IsRaws Gd agedD DbV)
set_option linter.unusedVariables false

/-- With the patience 1 all are told, and nothing else changes. -/
theorem aged_one {ds : List DbV} (h : ∀ d ∈ ds, d.age = 0) : ds.map (agedD 1) = ds ∧ toldT 1 ds = ds.map (fun d => d.t) := by
  have h1 : ∀ d ∈ ds, agedD 1 d = d := fun d hd => by
    obtain ⟨t, a⟩ := d
    have := h _ hd
    simp only at this
    subst this
    rfl
  refine ⟨by rw [List.map_congr_left h1]; simp, ?_⟩
  unfold toldT
  rw [List.filter_eq_self.2 (fun d hd => by have := h d hd; simp; omega)]
theorem tick_pre (s me : Int) (ts : List (Int × Int)) {i : Nat} (hi : i < ts.length) (hin : inR (ts.getD i default).1 0 (s - 1) = true) :
    (tickMsgs s me (ts.take i)).length < (tickMsgs s me ts).length ∧ (tickMsgs s me ts).getD (tickMsgs s me (ts.take i)).length default = doubtsMsg me (ts.getD i default) ∧ (tickMsgs s me (ts.take (i + 1))).length = (tickMsgs s me (ts.take i)).length + 1 := by
  have e1 := tick_at s me ts hi
  rw [hin, if_pos rfl] at e1
  have e2 : tickMsgs s me ts = tickMsgs s me (ts.take (i + 1)) ++ tickMsgs s me (ts.drop (i + 1)) := by
    unfold tickMsgs
    rw [← List.map_append, ← List.filter_append, List.take_append_drop]
  rw [e2, e1]
  refine ⟨by simp, ?_, by simp⟩
  simp [List.getD]
theorem tick_skip (s me : Int) (ts : List (Int × Int)) {i : Nat} (hi : i < ts.length) (hin : inR (ts.getD i default).1 0 (s - 1) = false) : (tickMsgs s me (ts.take (i + 1))).length = (tickMsgs s me (ts.take i)).length := by
  have e1 := tick_at s me ts hi
  rw [hin] at e1
  rw [e1]
  simp
/-- Two stores, one of them empty. -/
theorem two_stores {u : World} {r : SV} (h : IsStore u r) (hw : ∀ t ∈ r.over, TxWf t) : IsStores (u.alloc (.cells #[.slice r.ia r.il r.ic, .slice r.la r.ll r.lc, .slice r.da r.dl r.dc, .slice r.oa r.ol r.oc, .slice none 0 0, .slice none 0 0, .slice none 0 0, .slice none 0 0] 31)) (some ⟨u.heap.size, 0, none⟩) 2 2 [r, SV.nil] := by
  have hb : (u.alloc (.cells #[.slice r.ia r.il r.ic, .slice r.la r.ll r.lc, .slice r.da r.dl r.dc, .slice r.oa r.ol r.oc, .slice none 0 0, .slice none 0 0, .slice none 0 0, .slice none 0 0] 31)).heap[u.heap.size]? = some (.cells #[.slice r.ia r.il r.ic, .slice r.la r.ll r.lc, .slice r.da r.dl r.dc, .slice r.oa r.ol r.oc, .slice none 0 0, .slice none 0 0, .slice none 0 0, .slice none 0 0] 31 (0, 0)) := heap_alloc_new u _
  refine ⟨⟨rfl, Nat.le_refl _, by unfold maxLen; omega, fun e => by simp at e, fun _ => ⟨u.heap.size, 0, rfl, by simp, fun i hi j hj => ?_⟩⟩, fun i hi => ?_⟩
  · rw [cell_of_row _ u.heap.size _ _ 31 (0, 0) hb]
    rcases (by omega : i = 0 ∨ i = 1) with rfl | rfl <;> rcases (by omega : j = 0 ∨ j = 1 ∨ j = 2 ∨ j = 3) with rfl | rfl | rfl | rfl <;> rfl
  · rcases (by omega : i = 0 ∨ i = 1) with rfl | rfl
    · exact ⟨h.below ((Below.refl _ _).alloc (Nat.le_refl _) _), hw⟩
    · exact ⟨St.isStore_nil _, by simp [SV.nil]⟩
theorem nil_ok : storeOK SV.nil = true := by decide

set_option maxRecDepth 100000 in
set_option maxHeartbeats 4000000 in
theorem partAsks_walk (s : Int) (a : Option Addr) (len cap : Nat) (rs : List St.RV) (me : Int) (w : World) (hs : (Lit.int .i64 s).wf = true) (hr : IsRaws w a len cap rs) (hme : (Lit.int .i64 me).wf = true) :
    Calls Try.prog 5 #[.int .i64 s, .slice a len cap, .int .i64 me] w fun e w' => e = .returned (.bool true) ∧ Below w.heap.size w w' := by
  have hsb := i64_bd hs
  have hmb := i64_bd hme
  have h3 := pk_bd s 3 (by omega)
  have hTw := fun u => two_any s u hsb
  obtain ⟨K3, eK3⟩ : ∃ x, x = pk s 3 := ⟨_, rfl⟩
  rw [← eK3] at h3 hTw
  clear eK3
  obtain ⟨k30, k33⟩ := h3
  have hkk := pk_bd me (1 + K3) (by omega)
  have hPk := fun u => picked_any me (1 + K3) u hmb (by omega) (by omega)
  obtain ⟨KM, eKM⟩ : ∃ x, x = pk me (1 + K3) := ⟨_, rfl⟩
  rw [← eKM] at hkk hPk
  clear eKM
  obtain ⟨km0, km1⟩ := hkk
  go_enter Try.func5, Try.ntmps5
  go_upto_region 2 with (go_at_call 13; refine (hTw _).mono ?_; rintro e w1 ⟨g0, rfl, hl1, hg0, hb1⟩)
  obtain ⟨X0, eX0⟩ : ∃ X : World, X = w1.alloc (.cells #[.int .i64 (1 + K3), .slice (some ⟨g0, 0, none⟩) 2 2, .int .i64 3] 24) := ⟨_, rfl⟩
  have cb0 : BoxN X0 w1.heap.size 3 [.int .i64 (1 + K3), .slice (some ⟨g0, 0, none⟩) 2 2, .int .i64 3] := by rw [eX0]; exact boxn_new w1 #[.int .i64 (1 + K3), .slice (some ⟨g0, 0, none⟩) 2 2, .int .i64 3] 24 3 rfl
  have bX0 : Below w1.heap.size w1 X0 := by rw [eX0]; exact (Below.refl _ _).alloc (Nat.le_refl _) _
  rw [← eX0]
  clear eX0
  have y2 := (cb0.c 2 (by decide)).1
  have f2 := (cb0.c 2 (by decide)).2
  have zy := cb0.lt
  simp only [List.getD_cons_zero, List.getD_cons_succ] at y2
  go_upto_region 3 with (fail)
  obtain ⟨X1, eX1⟩ : ∃ X : World, X = X0.setCell ⟨w1.heap.size, 2, none⟩ (.int .i64 1) := ⟨_, rfl⟩
  have cb1 : BoxN X1 w1.heap.size 3 [.int .i64 (1 + K3), .slice (some ⟨g0, 0, none⟩) 2 2, .int .i64 1] := by rw [eX1]; exact cb0.set 2 (by decide) (.int .i64 1)
  have bX1 : Below w1.heap.size w1 X1 := by rw [eX1]; exact bX0.setCell (p := ⟨w1.heap.size, 2, none⟩) (Nat.le_refl _) _
  rw [← eX1]
  clear eX1 y2 f2 zy cb0 bX0
  have hl2 := hl1.below bX1
  have bw1 := hb1.trans (bX1.mono hb1.size)
  have hr1 := hr.below bw1
  have c0 := (cb1.c 0 (by decide)).1
  have c1 := (cb1.c 1 (by decide)).1
  have c2 := (cb1.c 2 (by decide)).1
  have zc := cb1.lt
  simp only [List.getD_cons_zero, List.getD_cons_succ] at c0 c1 c2
  go_upto_region 4 with (go_at_call 14; refine (hPk _).mono ?_; rintro e u ⟨rfl, hu⟩; rw [hu]; clear hu)
  go_upto_region 5 with (go_at_call 15; refine (St.store_made a len cap rs 25 _ hr1 (by omega)).mono ?_; rintro e w2 ⟨⟨ra0, rn0, rc0, ra1, rn1, rc1, ra2, rn2, rc2, ra3, rn3, rc3, ri, rl, rd, ro⟩, rfl, hO2, hG, hb2⟩; simp only [SV.val])
  obtain ⟨X2, eX2⟩ : ∃ X : World, X = w2.alloc (.cells #[.slice ra0 rn0 rc0, .slice ra1 rn1 rc1, .slice ra2 rn2 rc2, .slice ra3 rn3 rc3] 31) := ⟨_, rfl⟩
  have sb2 : BoxN X2 w2.heap.size 4 [.slice ra0 rn0 rc0, .slice ra1 rn1 rc1, .slice ra2 rn2 rc2, .slice ra3 rn3 rc3] := by rw [eX2]; exact boxn_new w2 #[.slice ra0 rn0 rc0, .slice ra1 rn1 rc1, .slice ra2 rn2 rc2, .slice ra3 rn3 rc3] 31 4 rfl
  have bX2 : Below w2.heap.size w2 X2 := by rw [eX2]; exact (Below.refl _ _).alloc (Nat.le_refl _) _
  rw [← eX2]
  clear eX2 c0 c1 c2 zc
  have b12 : Below X1.heap.size X1 X2 := hb2.trans (bX2.mono hb2.size)
  have cb2 := cb1.below b12 cb1.lt
  have hl3 := hl2.below b12
  have bw2 := bw1.trans (b12.mono bw1.size)
  have hS2 := hO2.isStore.below bX2
  -- what the tick answers
  have hok : storeOK ⟨ra0, rn0, rc0, ra1, rn1, rc1, ra2, rn2, rc2, ra3, rn3, rc3, ri, rl, rd, ro⟩ = true := hG.ok.ok
  have hwf := hG.wf
  have h4o := hG.h4 hO2.isStore
  have hc0 : cfgFault (1 + K3) LS2 1 = 0 := cfg_two (by omega) (by omega) (by omega) (by omega)
  have hE0 : siteErr (1 + K3) LS2 1 0 KM 2 [⟨ra0, rn0, rc0, ra1, rn1, rc1, ra2, rn2, rc2, ra3, rn3, rc3, ri, rl, rd, ro⟩, SV.nil] = 0 := by
    unfold siteErr
    rw [if_pos hc0, if_pos (by decide), if_pos (inR_true (by omega) (by omega)), if_pos (by decide), if_pos (by simp [hok, nil_ok])]
  have hE2 : siteErr (1 + K3) LS2 1 2 KM 2 [⟨ra0, rn0, rc0, ra1, rn1, rc1, ra2, rn2, rc2, ra3, rn3, rc3, ri, rl, rd, ro⟩, SV.nil] = 6 := by
    unfold siteErr
    rw [if_pos hc0, if_neg (by decide)]
  have hA0 : ageErr ⟨ra0, rn0, rc0, ra1, rn1, rc1, ra2, rn2, rc2, ra3, rn3, rc3, ri, rl, rd, ro⟩ 1 = 0 := by unfold ageErr; rw [hok]; rfl
  obtain ⟨ag1, ag2⟩ := aged_one hG.da0
  have hD0 : tickD (1 + K3) LS2 1 0 KM 2 [⟨ra0, rn0, rc0, ra1, rn1, rc1, ra2, rn2, rc2, ra3, rn3, rc3, ri, rl, rd, ro⟩, SV.nil] = ⟨SV.data ⟨ra0, rn0, rc0, ra1, rn1, rc1, ra2, rn2, rc2, ra3, rn3, rc3, ri, rl, rd, ro⟩, tickMsgs (1 + K3) KM (rd.map (fun d => d.t)), [], []⟩ := by
    unfold tickD
    rw [if_pos hE0]
    show AD.mk (ageData ⟨ra0, rn0, rc0, ra1, rn1, rc1, ra2, rn2, rc2, ra3, rn3, rc3, ri, rl, rd, ro⟩ 1) (tickMsgs _ _ (ageTold ⟨ra0, rn0, rc0, ra1, rn1, rc1, ra2, rn2, rc2, ra3, rn3, rc3, ri, rl, rd, ro⟩ 1)) [] [] = _
    unfold ageData ageTold
    rw [if_pos hA0, if_pos hA0]
    show AD.mk ⟨ri, rl, rd.map (agedD 1), ro⟩ (tickMsgs _ _ (toldT 1 rd)) [] [] = _
    rw [show rd.map (agedD 1) = rd from ag1, show toldT 1 rd = _ from ag2]
    rfl
  have hov : ∀ i, i < 2 → (([⟨ra0, rn0, rc0, ra1, rn1, rc1, ra2, rn2, rc2, ra3, rn3, rc3, ri, rl, rd, ro⟩, SV.nil] : List SV).getD i default).ol * 16 ≤ 140737488351232 := fun i hi => by
    rcases (by omega : i = 0 ∨ i = 1) with rfl | rfl
    · exact h4o
    · show 0 * 16 ≤ _; omega
  have hT1 := fun sa sc w' h1 h2 => tick_any (1 + K3) 1 (some ⟨g0, 0, none⟩) 2 2 LS2 0 KM sa 2 sc [⟨ra0, rn0, rc0, ra1, rn1, rc1, ra2, rn2, rc2, ra3, rn3, rc3, ri, rl, rd, ro⟩, SV.nil] w' h1 h2 hov
  have hT2 := fun sa sc w' h1 h2 => tick_any (1 + K3) 1 (some ⟨g0, 0, none⟩) 2 2 LS2 2 KM sa 2 sc [⟨ra0, rn0, rc0, ra1, rn1, rc1, ra2, rn2, rc2, ra3, rn3, rc3, ri, rl, rd, ro⟩, SV.nil] w' h1 h2 hov
  rw [hE0, hD0] at hT1
  rw [hE2] at hT2
  have hpos : ∀ d ∈ rd, 0 ≤ d.t.1 := fun d hd => by
    obtain ⟨k, hk, e⟩ := hG.ok.dl d hd
    have := hG.ok.lk k hk
    simp only [St.lockOK, St.txOK, Bool.and_eq_true] at this
    rw [← e]
    exact (St.inR_of this.1.1.1.1.1).1
  have HPos : Hid (∀ d ∈ rd, 0 ≤ d.t.1) := hpos
  clear hpos ag1 ag2 hA0 hD0 hE0 hE2 hc0 hok hG hov h4o
  have c0 := (cb2.c 0 (by decide)).1
  have c1 := (cb2.c 1 (by decide)).1
  have c2 := (cb2.c 2 (by decide)).1
  have zc := cb2.lt
  have x0 := (sb2.c 0 (by decide)).1
  have x1 := (sb2.c 1 (by decide)).1
  have x2 := (sb2.c 2 (by decide)).1
  have x3 := (sb2.c 3 (by decide)).1
  have zs := sb2.lt
  simp only [List.getD_cons_zero, List.getD_cons_succ] at c0 c1 c2 x0 x1 x2 x3
  obtain ⟨X3, eX3⟩ : ∃ X : World, X = X2.alloc (.cells #[.slice ra0 rn0 rc0, .slice ra1 rn1 rc1, .slice ra2 rn2 rc2, .slice ra3 rn3 rc3, .slice none 0 0, .slice none 0 0, .slice none 0 0, .slice none 0 0] 31) := ⟨_, rfl⟩
  have hSS3 : IsStores X3 (some ⟨X2.heap.size, 0, none⟩) 2 2 [⟨ra0, rn0, rc0, ra1, rn1, rc1, ra2, rn2, rc2, ra3, rn3, rc3, ri, rl, rd, ro⟩, SV.nil] := by rw [eX3]; exact two_stores (r := ⟨ra0, rn0, rc0, ra1, rn1, rc1, ra2, rn2, rc2, ra3, rn3, rc3, ri, rl, rd, ro⟩) hS2 hwf
  have b23 : Below X2.heap.size X2 X3 := by rw [eX3]; exact (Below.refl _ _).alloc (Nat.le_refl _) _
  go_upto_region 6 with (go_at_call 7; rw [← eX3]; refine (hT1 _ _ _ (hl3.below b23) hSS3).mono ?_; rintro e w3 ⟨⟨⟨va0, vn0, vc0, va1, vn1, vc1, va2, vn2, vc2, va3, vn3, vc3, vi, vl, vd, vo⟩, va4, vn4, vc4, va5, vn5, vc5, va6, vn6, vc6, vms, vrs, vns⟩, rfl, hI3, hd3, hb3, _⟩; simp only [AnsV.val])
  clear hT1 hSS3 eX3
  obtain ⟨X4, eX4⟩ : ∃ X : World, X = w3.alloc (.cells #[.slice va0 vn0 vc0, .slice va1 vn1 vc1, .slice va2 vn2 vc2, .slice va3 vn3 vc3, .slice va4 vn4 vc4, .slice va5 vn5 vc5, .slice va6 vn6 vc6] 36) := ⟨_, rfl⟩
  have ab4 : BoxN X4 w3.heap.size 7 [.slice va0 vn0 vc0, .slice va1 vn1 vc1, .slice va2 vn2 vc2, .slice va3 vn3 vc3, .slice va4 vn4 vc4, .slice va5 vn5 vc5, .slice va6 vn6 vc6] := by rw [eX4]; exact boxn_new w3 #[.slice va0 vn0 vc0, .slice va1 vn1 vc1, .slice va2 vn2 vc2, .slice va3 vn3 vc3, .slice va4 vn4 vc4, .slice va5 vn5 vc5, .slice va6 vn6 vc6] 36 7 rfl
  have b34 : Below w3.heap.size w3 X4 := by rw [eX4]; exact (Below.refl _ _).alloc (Nat.le_refl _) _
  rw [← eX4]
  clear eX4 c0 c1 c2 zc x0 x1 x2 x3 zs
  have b24 : Below X2.heap.size X2 X4 := b23.trans ((hb3.trans (b34.mono hb3.size)).mono b23.size)
  have cb4 := cb2.below b24 cb2.lt
  have sb4 := sb2.below b24 sb2.lt
  have hI4 := hI3.below b34
  have hS4 := hS2.below b24
  have hl4 := hl3.below b24
  have bw4 := bw2.trans (b24.mono bw2.size)
  have em : vms = tickMsgs (1 + K3) KM (rd.map (fun d => d.t)) := congrArg AD.ms hd3
  have ed : SV.data ⟨va0, vn0, vc0, va1, vn1, vc1, va2, vn2, vc2, va3, vn3, vc3, vi, vl, vd, vo⟩ = SV.data ⟨ra0, rn0, rc0, ra1, rn1, rc1, ra2, rn2, rc2, ra3, rn3, rc3, ri, rl, rd, ro⟩ := congrArg AD.st hd3
  have hml : vms.length = vn4 := hI4.ms.1
  have HML : Hid (vn4 = (tickMsgs (1 + K3) KM (rd.map (fun d => d.t))).length) := by show _ = _; rw [← em, hml]
  have hMS := hI4.ms
  simp only [] at hMS
  rw [em] at hMS
  have hdl : rd.length = rn2 := hS4.doubts.1
  have HDL : Hid (rd.length = rn2) := hdl
  have h24 : rn2 ≤ maxLen := Nat.le_trans hS4.doubts.2.1 hS4.doubts.2.2.1
  unfold maxLen at h24
  have hm24 : vn4 ≤ maxLen := Nat.le_trans hMS.2.1 hMS.2.2.1
  unfold maxLen at hm24
  have KS : Hid (∀ U, Below X4.heap.size X4 U → IsStore U ⟨ra0, rn0, rc0, ra1, rn1, rc1, ra2, rn2, rc2, ra3, rn3, rc3, ri, rl, rd, ro⟩ ∧ IsStore U ⟨va0, vn0, vc0, va1, vn1, vc1, va2, vn2, vc2, va3, vn3, vc3, vi, vl, vd, vo⟩ ∧ IsLabs U (some ⟨g0, 0, none⟩) 2 2 LS2 ∧ IsMsgs U va4 vn4 vc4 (tickMsgs (1 + K3) KM (rd.map (fun d => d.t))) ∧ BoxN U w1.heap.size 3 [.int .i64 (1 + K3), .slice (some ⟨g0, 0, none⟩) 2 2, .int .i64 1] ∧ BoxN U w2.heap.size 4 [.slice ra0 rn0 rc0, .slice ra1 rn1 rc1, .slice ra2 rn2 rc2, .slice ra3 rn3 rc3] ∧ BoxN U w3.heap.size 7 [.slice va0 vn0 vc0, .slice va1 vn1 vc1, .slice va2 vn2 vc2, .slice va3 vn3 vc3, .slice va4 vn4 vc4, .slice va5 vn5 vc5, .slice va6 vn6 vc6]) := fun U hU => ⟨hS4.below hU, hI4.st.below hU, hl4.below hU, St.IsRow.below hMS hU, cb4.below hU cb4.lt, sb4.below hU sb4.lt, ab4.below hU ab4.lt⟩
  have KB : Hid (∀ U, Below X4.heap.size X4 U → Below w.heap.size w U) := fun U hU => bw4.trans (hU.mono bw4.size)
  have x2 := (sb4.c 2 (by decide)).1
  have zs := sb4.lt
  simp only [List.getD_cons_zero, List.getD_cons_succ] at x2
  clear hml hdl hMS hI3 hI4 hd3 em hS2 hS4 hl1 hl2 hl3 hl4 cb1 cb2 cb4 sb2 sb4 ab4
  clear hb1 bX1 bw1 hr1 hO2 hb2 bX2 b12 bw2 b23 hb3 b34 b24
  obtain ⟨TS, eTS⟩ : ∃ x, x = rd.map (fun d => d.t) := ⟨_, rfl⟩
  have HTS : Hid (TS = rd.map (fun d => d.t)) := eTS
  rw [← eTS] at HML KS
  clear eTS
  go_wp2
  go_loopw [38, 12, 14] (fun s38 s12 _ wr => ∃ i : Nat, i ≤ rn2 ∧ s38 = .int .i64 (i : Int) ∧ s12 = .int .i64 ((tickMsgs (1 + K3) KM (TS.take i)).length : Int) ∧ Below X4.heap.size X4 wr) (fun s38 _ _ _ => rn2 - (intOf s38).toNat)
  case atStart => exact ⟨0, by omega, rfl, by simp [tickMsgs], Below.refl _ _⟩
  case round =>
    obtain ⟨i, hi, rfl, rfl, hb⟩ := hrel
    clear x2 zs
    obtain ⟨kS, kV, kL, kM, cbW, sbW, abW⟩ := KS.out _ hb
    by_cases hlt : i < rn2
    · have hlt' : (i : Int) < (rn2 : Int) := by omega
      obtain ⟨b1, o1, e2, zb1, hc⟩ := kS.doubts.2.2.2.2 (by show 0 < rn2; omega)
      have t0 := hc i hlt 0 (by decide)
      have t1 := hc i hlt 1 (by decide)
      have t2 := hc i hlt 2 (by decide)
      have hid : i < rd.length := by rw [HDL.out]; exact hlt
      have hiT : i < TS.length := by rw [HTS.out]; simpa using hid
      have eT : TS.getD i default = (rd.getD i default).t := by rw [HTS.out]; simp [List.getD, hid]
      have hpos := HPos.out (rd.getD i default) (St.getD_mem hid)
      have hPre := tick_pre (1 + K3) KM TS hiT
      have hSkip := tick_skip (1 + K3) KM TS hiT
      rw [eT] at hPre hSkip
      simp only [] at t0 t1 t2 e2
      obtain ⟨⟨⟨tsi, tnu⟩, tag⟩, et⟩ : ∃ t, t = rd.getD i default := ⟨_, rfl⟩
      rw [← et] at t0 t1 t2 hPre hSkip hpos
      simp only [] at hPre hSkip hpos
      simp only [DbV.cells, List.getElem?_cons_zero, List.getElem?_cons_succ, Nat.add_zero] at t0 t1 t2
      subst e2
      clear et hc eT hiT hid
      have HPre : Hid (inR tsi 0 (1 + K3 - 1) = true → (tickMsgs (1 + K3) KM (TS.take i)).length < (tickMsgs (1 + K3) KM TS).length ∧ (tickMsgs (1 + K3) KM TS).getD (tickMsgs (1 + K3) KM (TS.take i)).length default = doubtsMsg KM (tsi, tnu) ∧ (tickMsgs (1 + K3) KM (TS.take (i + 1))).length = (tickMsgs (1 + K3) KM (TS.take i)).length + 1) := hPre
      have HSkip : Hid (inR tsi 0 (1 + K3 - 1) = false → (tickMsgs (1 + K3) KM (TS.take (i + 1))).length = (tickMsgs (1 + K3) KM (TS.take i)).length) := hSkip
      clear hPre hSkip
      go_upto_region 10 with (fail)
      obtain ⟨U1, eU1⟩ : ∃ U : World, U = wr.alloc (.cells #[.int .i64 tsi, .int .i64 tnu, .int .i64 tag] 52) := ⟨_, rfl⟩
      have bU1 : Below wr.heap.size wr U1 := by rw [eU1]; exact (Below.refl _ _).alloc (Nat.le_refl _) _
      have v0 : U1.cell? ⟨wr.heap.size, 0, none⟩ = some (.int .i64 tsi) := by rw [eU1]; go_simp
      have v1 : U1.cell? ⟨wr.heap.size, 1, none⟩ = some (.int .i64 tnu) := by rw [eU1]; go_simp
      have zU1 : wr.heap.size < U1.heap.size := by rw [eU1]; simp
      rw [← eU1]
      clear eU1 t0 t1 t2 zb1
      have hb' : Below X4.heap.size X4 U1 := hb.trans (bU1.mono hb.size)
      clear kS kV kL kM cbW sbW abW
      obtain ⟨kS, kV, kL, kM, cbW, sbW, abW⟩ := KS.out _ hb'
      have c0 := (cbW.c 0 (by decide)).1
      have zc := cbW.lt
      have a4 := (abW.c 4 (by decide)).1
      have za := abW.lt
      simp only [List.getD_cons_zero, List.getD_cons_succ] at c0 a4
      clear kS kV kL cbW sbW abW
      by_cases hin : tsi < 1 + K3
      · obtain ⟨pr1, pr2, pr3⟩ := HPre.out (inR_true hpos (by omega))
        have HNX : Hid ((tickMsgs (1 + K3) KM (TS.take (i + 1))).length = (tickMsgs (1 + K3) KM (TS.take i)).length + 1) := pr3
        have hnl : (tickMsgs (1 + K3) KM (TS.take i)).length < vn4 := by rw [HML.out]; exact pr1
        clear HPre HSkip pr1 pr3
        obtain ⟨N, eN⟩ : ∃ N, N = (tickMsgs (1 + K3) KM (TS.take i)).length := ⟨_, rfl⟩
        rw [← eN] at hnl pr2 HNX ⊢
        clear eN
        obtain ⟨b2, o2, rfl, zb2, hc⟩ := kM.2.2.2.2 (by omega)
        have e1 := hc N hnl
        rw [pr2] at e1
        clear hc kM pr2
        have m0 := e1 0 (by decide)
        have m1 := e1 1 (by decide)
        have m2 := e1 2 (by decide)
        have m3 := e1 3 (by decide)
        have m4 := e1 4 (by decide)
        have m5 := e1 5 (by decide)
        have m6 := e1 6 (by decide)
        have m7 := e1 7 (by decide)
        have m8 := e1 8 (by decide)
        have m9 := e1 9 (by decide)
        have m10 := e1 10 (by decide)
        have m11 := e1 11 (by decide)
        simp only [mcells, doubtsMsg, List.getElem?_cons_zero, List.getElem?_cons_succ, Nat.add_zero] at m0 m1 m2 m3 m4 m5 m6 m7 m8 m9 m10 m11
        clear e1
        have hnl' : (N : Int) < (vn4 : Int) := by omega
        have hne : ((N : Int) == (vn4 : Int)) = false := by simp; omega
        have hN64 : (N : Int) + 1 ≤ 9223372036854775807 := by omega
        go_upto_region 11 with (fail)
        go_quiet (fail)
        go_wp2
        go_roundw
        case rel => exact ⟨i + 1, by omega, by go_num, by rw [HNX.out]; go_num, hb'.trans ((below_drewN (Below.refl _ _) nq).mono hb'.size)⟩
        case measure => simp [intOf]; omega
      · have HNX : Hid ((tickMsgs (1 + K3) KM (TS.take (i + 1))).length = (tickMsgs (1 + K3) KM (TS.take i)).length) := HSkip.out (inR_false (by omega))
        clear HPre HSkip kM
        have hin' : 1 + K3 ≤ tsi := by omega
        go_wp2
        go_roundw
        case rel => exact ⟨i + 1, by omega, by go_num, by rw [HNX.out], hb'⟩
        case measure => simp [intOf]; omega
    · obtain rfl : rn2 = i := by omega
      have eN : (tickMsgs (1 + K3) KM (TS.take rn2)).length = vn4 := by
        rw [HML.out, List.take_of_length_le]
        rw [HTS.out, List.length_map, HDL.out]
        exact Nat.le_refl _
      rw [eN]
      clear eN
      have c0 := (cbW.c 0 (by decide)).1
      have c1 := (cbW.c 1 (by decide)).1
      have c2 := (cbW.c 2 (by decide)).1
      have zc := cbW.lt
      have x0 := (sbW.c 0 (by decide)).1
      have x1 := (sbW.c 1 (by decide)).1
      have x2 := (sbW.c 2 (by decide)).1
      have x3 := (sbW.c 3 (by decide)).1
      have zs := sbW.lt
      simp only [List.getD_cons_zero, List.getD_cons_succ] at c0 c1 c2 x0 x1 x2 x3
      obtain ⟨X5, eX5⟩ : ∃ X : World, X = wr.alloc (.cells #[.slice ra0 rn0 rc0, .slice ra1 rn1 rc1, .slice ra2 rn2 rc2, .slice ra3 rn3 rc3, .slice none 0 0, .slice none 0 0, .slice none 0 0, .slice none 0 0] 31) := ⟨_, rfl⟩
      have hSS5 : IsStores X5 (some ⟨wr.heap.size, 0, none⟩) 2 2 [⟨ra0, rn0, rc0, ra1, rn1, rc1, ra2, rn2, rc2, ra3, rn3, rc3, ri, rl, rd, ro⟩, SV.nil] := by rw [eX5]; exact two_stores (r := ⟨ra0, rn0, rc0, ra1, rn1, rc1, ra2, rn2, rc2, ra3, rn3, rc3, ri, rl, rd, ro⟩) kS hwf
      have b5 : Below wr.heap.size wr X5 := by rw [eX5]; exact (Below.refl _ _).alloc (Nat.le_refl _) _
      go_upto_region 16 with (go_at_call 7; rw [← eX5]; refine (hT2 _ _ _ (kL.below b5) hSS5).mono ?_; rintro e w5 ⟨⟨⟨ua0, un0, uc0, ua1, un1, uc1, ua2, un2, uc2, ua3, un3, uc3, ui, ul, ud, uo⟩, ua4, un4, uc4, ua5, un5, uc5, ua6, un6, uc6, ums, urs, uns⟩, rfl, _, _, hb5', _⟩; simp only [AnsV.val])
      have b5' : Below wr.heap.size wr w5 := b5.trans (hb5'.mono b5.size)
      obtain ⟨X6, eX6⟩ : ∃ X : World, X = w5.alloc (.cells #[.slice ua0 un0 uc0, .slice ua1 un1 uc1, .slice ua2 un2 uc2, .slice ua3 un3 uc3, .slice ua4 un4 uc4, .slice ua5 un5 uc5, .slice ua6 un6 uc6] 36) := ⟨_, rfl⟩
      have b6 : Below X4.heap.size X4 X6 := by rw [eX6]; exact hb.trans ((b5'.trans ((Below.refl _ _).alloc (Nat.le_refl _) _ |>.mono b5'.size)).mono hb.size)
      rw [← eX6]
      clear eX6 eX5 hSS5 c0 c1 c2 x0 x1 x2 x3 zc zs kS kV kL kM cbW sbW abW
      obtain ⟨kS, kV, kL, kM, cbW, sbW, abW⟩ := KS.out _ b6
      have x0 := (sbW.c 0 (by decide)).1
      have x1 := (sbW.c 1 (by decide)).1
      have x2 := (sbW.c 2 (by decide)).1
      have x3 := (sbW.c 3 (by decide)).1
      have zs := sbW.lt
      have a0 := (abW.c 0 (by decide)).1
      have a1 := (abW.c 1 (by decide)).1
      have a2 := (abW.c 2 (by decide)).1
      have a3 := (abW.c 3 (by decide)).1
      have a4 := (abW.c 4 (by decide)).1
      have za := abW.lt
      simp only [List.getD_cons_zero, List.getD_cons_succ] at x0 x1 x2 x3 a0 a1 a2 a3 a4
      have hSm := St.keptStore_any _ _ X6 kV kS ed
      simp only [SV.val] at hSm
      clear kL kM cbW sbW abW
      go_wp2_with (go_at_call 16; refine hSm.mono ?_; rintro e w7 ⟨rfl, hb7⟩)
      go_ret
      exact ⟨by simp, KB.out _ (b6.trans (hb7.mono b6.size))⟩
end Go.Proofs.Ytmkobbgedhlcfaa.Pt
