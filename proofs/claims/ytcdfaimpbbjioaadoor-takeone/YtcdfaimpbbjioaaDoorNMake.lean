/- Contracts of reredoskeep.messages and count: messages that may be, at most so many, in memory of their own; how many are on their way. -/
import Derived.Test.YtcdfaimpbbjioaaDoorNSend
import Derived.Test.YtcdfaimpbbjioaaDoorNBox
import Derived.Test.YtcdfaimpbbjioaaDoorKMsg
import Derived.Test.YtcdfaimpbbjioaaDoorRawsW
namespace Go.Proofs.YtcdfaimpbbjioaaDoor.Nt
open Go.ChangeShapes Go.WideShapes Go.ChangeAt Go.RowKit
set_option linter.unusedVariables false

set_option maxHeartbeats 4000000 in
set_option maxRecDepth 100000 in
theorem messages_any (S P : Int) (g n cp0 : Nat) (L : List (Int × Int)) (aa : Option Addr) (alen acap : Nat) (rs : List RV) (M : Int) (w : World) (hC : GoodC w S P g n cp0 L) (hx : IsRaws w aa alen acap rs) (hM : 0 ≤ M ∧ M ≤ 25) :
    Calls Tryd.prog 7 #[.agg #[.int .i64 S, .slice (some ⟨g, 0, none⟩) n cp0, .int .i64 P], .slice aa alen acap, .int .i64 M] w fun e w' => ∃ (ao : Option Addr) (cp : Nat) (ys : List MV),
      e = .returned (.slice ao ys.length cp) ∧ IsMsgs w' ao ys.length cp ys ∧ (∀ y ∈ ys, msgFault S L P y = 0) ∧ (ys.length : Int) ≤ M ∧ Below w.heap.size w w' := by
  obtain ⟨i0, E⟩ := msElem
  obtain ⟨M0, M25⟩ := hM
  have hmx : alen ≤ maxLen := Nat.le_trans hx.2.1 hx.2.2.1
  unfold maxLen at hmx
  obtain ⟨W, hW⟩ : ∃ W : World, W = w.alloc (.cells #[.int .i64 S, .slice (some ⟨g, 0, none⟩) n cp0, .int .i64 P] 26) := ⟨_, rfl⟩
  have hA : Below w.heap.size w W := by rw [hW]; exact (Below.refl _ _).alloc (Nat.le_refl _) _
  have zW : w.heap.size < W.heap.size := by rw [hW]; simp
  have d0 : W.cell? ⟨w.heap.size, 0, none⟩ = some (.int .i64 S) := by rw [hW]; go_simp
  have d1 : W.cell? ⟨w.heap.size, 1, none⟩ = some (.slice (some ⟨g, 0, none⟩) n cp0) := by rw [hW]; go_simp
  have d2 : W.cell? ⟨w.heap.size, 2, none⟩ = some (.int .i64 P) := by rw [hW]; go_simp
  have hxW := hx.below hA
  have HC : Hid (∀ U, Below w.heap.size w U → GoodC U S P g n cp0 L) := fun U hU => hC.below hU
  go_enter Tryd.func7, Tryd.ntmps7
  go_wp2
  rw [← hW]
  clear hW
  go_loopw [7, 8] (fun v i wr => ∃ (ao : Option Addr) (cp : Nat) (ys : List MV), v = .slice ao ys.length cp ∧ i = .int .i64 (ys.length : Int) ∧ ys.length ≤ alen ∧ (ys.length : Int) ≤ M ∧ wr.ownsRow W.heap.size 40 12 (.slice ao ys.length cp) ys.length (flat mcells ys) ∧ Hid (∀ y ∈ ys, msgFault S L P y = 0) ∧ Below W.heap.size W wr) (fun _ i _ => alen - (intOf i).toNat)
  case atStart => exact ⟨none, 0, [], rfl, rfl, Nat.zero_le _, M0, World.ownsRow_nil _ _ _ _, (fun y hy => by simp at hy), Below.refl _ _⟩
  case round =>
    obtain ⟨ao, cp, ys, rfl, rfl, hk, hkM, hO, hgood, hb⟩ := hrel
    have x0 := (hb.cell (p := ⟨w.heap.size, 0, none⟩) zW).trans d0
    have x1 := (hb.cell (p := ⟨w.heap.size, 1, none⟩) zW).trans d1
    have x2 := (hb.cell (p := ⟨w.heap.size, 2, none⟩) zW).trans d2
    have zr : w.heap.size < wr.heap.size := Nat.lt_of_lt_of_le zW hb.size
    by_cases hlt : ys.length < alen ∧ (ys.length : Int) < M
    · obtain ⟨hlt, hltM⟩ := hlt
      have hlt' : (ys.length : Int) < (alen : Int) := by omega
      obtain ⟨b, off, rfl, hAt⟩ := (hxW.below hb).2.2.2.2 (by omega)
      have hcells := hAt.2 ys.length (by have := hxW.1; omega)
      have hrok := hxW.2.2.2.1 ys.length
      obtain ⟨r, er⟩ : ∃ r, r = rs.getD ys.length default := ⟨_, rfl⟩
      rw [← er] at hcells hrok
      clear er
      obtain ⟨kd, ra, rb, rc, rd, re⟩ := r
      obtain ⟨hkd, hra, hrb, hrc, hrd, hre⟩ := hrok
      have a0 := hcells 0 (by decide)
      have a1 := hcells 1 (by decide)
      have a2 := hcells 2 (by decide)
      have a3 := hcells 3 (by decide)
      have a4 := hcells 4 (by decide)
      have a5 := hcells 5 (by decide)
      simp [RV.cells] at a0 a1 a2 a3 a4 a5
      have zb : b < wr.heap.size := hAt.1
      clear hcells hAt
      have KA : Hid (∀ U : World, Below wr.heap.size wr U → (U.cell? ⟨w.heap.size, 0, none⟩ = some (.int .i64 S) ∧ U.cell? ⟨w.heap.size, 1, none⟩ = some (.slice (some ⟨g, 0, none⟩) n cp0) ∧ U.cell? ⟨w.heap.size, 2, none⟩ = some (.int .i64 P)) ∧ U.cell? ⟨b, off + ys.length * 6, none⟩ = some (.int .i64 kd) ∧ U.cell? ⟨b, off + ys.length * 6 + 1, none⟩ = some (.int .i64 ra) ∧ U.cell? ⟨b, off + ys.length * 6 + 2, none⟩ = some (.int .i64 rb) ∧ U.cell? ⟨b, off + ys.length * 6 + 3, none⟩ = some (.int .i64 rc) ∧ U.cell? ⟨b, off + ys.length * 6 + 4, none⟩ = some (.int .i64 rd) ∧ U.cell? ⟨b, off + ys.length * 6 + 5, none⟩ = some (.int .i64 re)) := fun U hU =>
        ⟨⟨(hU.cell (p := ⟨w.heap.size, 0, none⟩) zr).trans x0, (hU.cell (p := ⟨w.heap.size, 1, none⟩) zr).trans x1, (hU.cell (p := ⟨w.heap.size, 2, none⟩) zr).trans x2⟩, (hU.cell (p := ⟨b, _, none⟩) zb).trans a0, (hU.cell (p := ⟨b, _, none⟩) zb).trans a1, (hU.cell (p := ⟨b, _, none⟩) zb).trans a2, (hU.cell (p := ⟨b, _, none⟩) zb).trans a3, (hU.cell (p := ⟨b, _, none⟩) zb).trans a4, (hU.cell (p := ⟨b, _, none⟩) zb).trans a5⟩
      have hD : Below wr.heap.size wr wr.drew := (Below.refl _ _).drew
      have hwr : Below w.heap.size w wr := hA.trans (hb.mono hA.size)
      have HMSG : Hid (∀ U, Below wr.heap.size wr U → Calls Tryd.prog 12 #[.agg #[.int .i64 S, .slice (some ⟨g, 0, none⟩) n cp0, .int .i64 P], .agg #[.int .i64 kd, .int .i64 ra, .int .i64 rb, .int .i64 rc, .int .i64 rd, .int .i64 re]] U fun e w' => ∃ m : MV, e = .returned m.val ∧ msgFault S L P m = 0 ∧ Below U.heap.size U w') := fun U hU => msg_good S P g n cp0 L kd ra rb rc rd re U (HC.out _ (hwr.trans (hU.mono hwr.size))) hkd hra hrb hrc hrd hre
      go_upto_region 5 with (fail)
      go_cut [9] (fun s9 wc => ∃ (q : Nat) (m : MV), s9 = .pointer (some ⟨q, 0, none⟩) ∧ BoxN wc q 12 (mcells m) ∧ msgFault S L P m = 0 ∧ Below wr.heap.size wr wc)
      case first =>
        go_region_held3 (fun U => (U.cell? ⟨w.heap.size, 0, none⟩ = some (.int .i64 S) ∧ U.cell? ⟨w.heap.size, 1, none⟩ = some (.slice (some ⟨g, 0, none⟩) n cp0) ∧ U.cell? ⟨w.heap.size, 2, none⟩ = some (.int .i64 P)) ∧ U.cell? ⟨b, off + ys.length * 6, none⟩ = some (.int .i64 kd) ∧ U.cell? ⟨b, off + ys.length * 6 + 1, none⟩ = some (.int .i64 ra) ∧ U.cell? ⟨b, off + ys.length * 6 + 2, none⟩ = some (.int .i64 rb) ∧ U.cell? ⟨b, off + ys.length * 6 + 3, none⟩ = some (.int .i64 rc) ∧ U.cell? ⟨b, off + ys.length * 6 + 4, none⟩ = some (.int .i64 rd) ∧ U.cell? ⟨b, off + ys.length * 6 + 5, none⟩ = some (.int .i64 re))
          (exact KA.out _ (by (with_reducible repeat (first | exact hu3 | exact hD | exact Below.refl _ _ | refine bD ?_ | refine bA ?_ _ | refine bS ?_ (by omega) _)); done))
          ((go_at_call 12; refine (HMSG.out _ (by (with_reducible repeat (first | exact hD | exact Below.refl _ _ | refine bD ?_ | refine bA ?_ _ | refine bS ?_ (by omega) _)); done)).mono ?_; rintro e u3 ⟨⟨kind, frm, dst, site, num, label, key, value, version, ask, yes, code⟩, rfl, hG, hb3'⟩; simp only [MV.val]; have hu3 : Below wr.heap.size wr u3 := bT (by (with_reducible repeat (first | exact hD | exact Below.refl _ _ | refine bD ?_ | refine bA ?_ _ | refine bS ?_ (by omega) _)); done) hb3'; have z3 : wr.heap.size ≤ u3.heap.size := hu3.size; (first | (have bx3 : BoxN u3 wr.heap.size 12 [.int .i64 0, .int .i64 0, .int .i64 0, .int .i64 0, .int .i64 0, .int .i64 0, .int .i64 0, .int .i64 0, .int .i64 0, .int .i64 0, .bool false, .int .i64 0] := (boxn_new wr.drew #[.int .i64 0, .int .i64 0, .int .i64 0, .int .i64 0, .int .i64 0, .int .i64 0, .int .i64 0, .int .i64 0, .int .i64 0, .int .i64 0, .bool false, .int .i64 0] 40 12 rfl).below hb3' (by simp); have s0 : _ = some (Value.int .i64 0) := (bx3.c 0 (by omega)).1; have g0 := (bx3.c 0 (by omega)).2; have s1 : _ = some (Value.int .i64 0) := (bx3.c 1 (by omega)).1; have g1 := (bx3.c 1 (by omega)).2; have s2 : _ = some (Value.int .i64 0) := (bx3.c 2 (by omega)).1; have g2 := (bx3.c 2 (by omega)).2; have s3 : _ = some (Value.int .i64 0) := (bx3.c 3 (by omega)).1; have g3 := (bx3.c 3 (by omega)).2; have s4 : _ = some (Value.int .i64 0) := (bx3.c 4 (by omega)).1; have g4 := (bx3.c 4 (by omega)).2; have s5 : _ = some (Value.int .i64 0) := (bx3.c 5 (by omega)).1; have g5 := (bx3.c 5 (by omega)).2; have s6 : _ = some (Value.int .i64 0) := (bx3.c 6 (by omega)).1; have g6 := (bx3.c 6 (by omega)).2; have s7 : _ = some (Value.int .i64 0) := (bx3.c 7 (by omega)).1; have g7 := (bx3.c 7 (by omega)).2; have s8 : _ = some (Value.int .i64 0) := (bx3.c 8 (by omega)).1; have g8 := (bx3.c 8 (by omega)).2; have s9 : _ = some (Value.int .i64 0) := (bx3.c 9 (by omega)).1; have g9 := (bx3.c 9 (by omega)).2; have s10 : _ = some (Value.bool false) := (bx3.c 10 (by omega)).1; have g10 := (bx3.c 10 (by omega)).2; have s11 : _ = some (Value.int .i64 0) := (bx3.c 11 (by omega)).1; have g11 := (bx3.c 11 (by omega)).2) | (have bx3 : BoxN u3 wr.heap.size 12 [.int .i64 0, .int .i64 0, .int .i64 0, .int .i64 0, .int .i64 0, .int .i64 0, .int .i64 0, .int .i64 0, .int .i64 0, .int .i64 0, .bool false, .int .i64 0] := (boxn_new wr #[.int .i64 0, .int .i64 0, .int .i64 0, .int .i64 0, .int .i64 0, .int .i64 0, .int .i64 0, .int .i64 0, .int .i64 0, .int .i64 0, .bool false, .int .i64 0] 40 12 rfl).below hb3' (by simp); have s0 : _ = some (Value.int .i64 0) := (bx3.c 0 (by omega)).1; have g0 := (bx3.c 0 (by omega)).2; have s1 : _ = some (Value.int .i64 0) := (bx3.c 1 (by omega)).1; have g1 := (bx3.c 1 (by omega)).2; have s2 : _ = some (Value.int .i64 0) := (bx3.c 2 (by omega)).1; have g2 := (bx3.c 2 (by omega)).2; have s3 : _ = some (Value.int .i64 0) := (bx3.c 3 (by omega)).1; have g3 := (bx3.c 3 (by omega)).2; have s4 : _ = some (Value.int .i64 0) := (bx3.c 4 (by omega)).1; have g4 := (bx3.c 4 (by omega)).2; have s5 : _ = some (Value.int .i64 0) := (bx3.c 5 (by omega)).1; have g5 := (bx3.c 5 (by omega)).2; have s6 : _ = some (Value.int .i64 0) := (bx3.c 6 (by omega)).1; have g6 := (bx3.c 6 (by omega)).2; have s7 : _ = some (Value.int .i64 0) := (bx3.c 7 (by omega)).1; have g7 := (bx3.c 7 (by omega)).2; have s8 : _ = some (Value.int .i64 0) := (bx3.c 8 (by omega)).1; have g8 := (bx3.c 8 (by omega)).2; have s9 : _ = some (Value.int .i64 0) := (bx3.c 9 (by omega)).1; have g9 := (bx3.c 9 (by omega)).2; have s10 : _ = some (Value.bool false) := (bx3.c 10 (by omega)).1; have g10 := (bx3.c 10 (by omega)).2; have s11 : _ = some (Value.int .i64 0) := (bx3.c 11 (by omega)).1; have g11 := (bx3.c 11 (by omega)).2) | skip)))
        all_goals
          have hG2 : Hid (msgFault S L P ⟨kind, frm, dst, site, num, label, key, value, version, ask, yes, code⟩ = 0) := hG
          clear hG
          first
            | (have bxF := ((((((((((((bx3.set 0 (by omega) (.int .i64 kind)).set 1 (by omega) (.int .i64 frm)).set 2 (by omega) (.int .i64 dst)).set 3 (by omega) (.int .i64 site)).set 4 (by omega) (.int .i64 num)).set 5 (by omega) (.int .i64 label)).set 6 (by omega) (.int .i64 key)).set 7 (by omega) (.int .i64 value)).set 8 (by omega) (.int .i64 version)).set 9 (by omega) (.int .i64 ask)).set 10 (by omega) (.bool yes)).set 11 (by omega) (.int .i64 code)))
            | (have bxF : BoxN _ u3.heap.size 12 [.int .i64 kind, .int .i64 frm, .int .i64 dst, .int .i64 site, .int .i64 num, .int .i64 label, .int .i64 key, .int .i64 value, .int .i64 version, .int .i64 ask, .bool yes, .int .i64 code] := boxn_new u3 #[.int .i64 kind, .int .i64 frm, .int .i64 dst, .int .i64 site, .int .i64 num, .int .i64 label, .int .i64 key, .int .i64 value, .int .i64 version, .int .i64 ask, .bool yes, .int .i64 code] 40 12 rfl)
          go_wp2_with fail
          go_meet
          case rel => exact ⟨_, ⟨kind, frm, dst, site, num, label, key, value, version, ask, yes, code⟩, rfl, bxF, hG2.out, (by (with_reducible repeat (first | exact hu3 | exact hD | exact Below.refl _ _ | refine bD ?_ | refine bA ?_ _ | refine bS ?_ (by omega) _)); done)⟩
      case rest =>
        obtain ⟨q, ⟨kind, frm, dst, site, num, label, key, value, version, ask, yes, code⟩, rfl, bxF, hf0, bF⟩ := hcut
        have HF : Hid (msgFault S L P ⟨kind, frm, dst, site, num, label, key, value, version, ask, yes, code⟩ = 0) := hf0
        clear hf0
        obtain ⟨X, eX⟩ : ∃ X, X = wc := ⟨_, rfl⟩
        rw [← eX] at bxF bF ⊢
        clear eX
        have qlt := bxF.lt
        have m0 : X.cell? ⟨q, 0, none⟩ = some (.int .i64 kind) := (bxF.c 0 (by omega)).1
        have m1 : X.cell? ⟨q, 1, none⟩ = some (.int .i64 frm) := (bxF.c 1 (by omega)).1
        have m2 : X.cell? ⟨q, 2, none⟩ = some (.int .i64 dst) := (bxF.c 2 (by omega)).1
        have m3 : X.cell? ⟨q, 3, none⟩ = some (.int .i64 site) := (bxF.c 3 (by omega)).1
        have m4 : X.cell? ⟨q, 4, none⟩ = some (.int .i64 num) := (bxF.c 4 (by omega)).1
        have m5 : X.cell? ⟨q, 5, none⟩ = some (.int .i64 label) := (bxF.c 5 (by omega)).1
        have m6 : X.cell? ⟨q, 6, none⟩ = some (.int .i64 key) := (bxF.c 6 (by omega)).1
        have m7 : X.cell? ⟨q, 7, none⟩ = some (.int .i64 value) := (bxF.c 7 (by omega)).1
        have m8 : X.cell? ⟨q, 8, none⟩ = some (.int .i64 version) := (bxF.c 8 (by omega)).1
        have m9 : X.cell? ⟨q, 9, none⟩ = some (.int .i64 ask) := (bxF.c 9 (by omega)).1
        have m10 : X.cell? ⟨q, 10, none⟩ = some (.bool yes) := (bxF.c 10 (by omega)).1
        have m11 : X.cell? ⟨q, 11, none⟩ = some (.int .i64 code) := (bxF.c 11 (by omega)).1
        have zX : W.heap.size ≤ X.heap.size := Nat.le_trans hb.size bF.size
        go_upto_region 4 with (at_builtin; go_loud (refine wpList_append_row E (by rfl) _ _ (by rfl) W.heap.size (.slice ao ys.length cp) ys.length ys (by rfl) (own_below (own_below hO bF) ((Below.refl _ _).alloc (Nat.le_refl _) _)) _ 1 1 [⟨kind, frm, dst, site, num, label, key, value, version, ask, yes, code⟩] (by rfl) (isMs_one _ _ _ _ _ _ _ _ _ _ _ _ _) (by unfold maxLen; omega) (by omega) (by simp; omega) ?_; intro a7 c7 w7 own7 gr7 at7))
        have hb7 : Below W.heap.size W w7 := bG (bA (bT hb bF) _) gr7 (fun m hm => (hO.lt m hm).1)
        have hg7 : Hid (∀ y ∈ ys ++ [(⟨kind, frm, dst, site, num, label, key, value, version, ask, yes, code⟩ : MV)], msgFault S L P y = 0) := fun y hy => by
          rcases List.mem_append.1 hy with hy | hy
          · exact hgood.out y hy
          · simp at hy; subst hy; exact HF.out
        obtain ⟨zs, ezs⟩ : ∃ zs, zs = ys ++ [(⟨kind, frm, dst, site, num, label, key, value, version, ask, yes, code⟩ : MV)] := ⟨_, rfl⟩
        have elz : Hid (zs.length = ys.length + 1) := by show _ = _; rw [ezs]; simp
        rw [← ezs] at own7 hg7
        clear ezs
        go_wp2
        go_roundw
        case rel =>
          refine ⟨a7, c7, zs, by rw [elz.out], by rw [elz.out]; go_num, by rw [elz.out]; omega, by rw [elz.out]; omega, by rw [elz.out]; exact own7, hg7, hb7⟩
        case measure => simp [intOf]; omega
    · have hfin := (own_isRow mcells_len hO rfl).1
      by_cases h1 : ys.length < alen
      · have h1' : (ys.length : Int) < (alen : Int) := by omega
        have h2 : ¬ (ys.length : Int) < M := fun hh => hlt ⟨h1, hh⟩
        go_wp2
        go_ret
        exact ⟨ao, cp, ys, rfl, hfin, hgood.out, hkM, hA.trans (hb.mono hA.size)⟩
      · have h1' : ¬ (ys.length : Int) < (alen : Int) := by omega
        go_wp2
        go_ret
        exact ⟨ao, cp, ys, rfl, hfin, hgood.out, hkM, hA.trans (hb.mono hA.size)⟩

/-- How many there are. -/
def total (ll : List (List MV)) : Nat := (ll.map List.length).sum
theorem total_take {ll : List (List MV)} {k : Nat} (hk : k < ll.length) : total (ll.take (k + 1)) = total (ll.take k) + (ll.getD k []).length := by
  have e : ll.getD k [] = ll[k] := by simp [List.getD, hk]
  unfold total
  rw [List.take_succ_eq_append_getElem hk, e]
  simp only [List.map_append, List.map_cons, List.map_nil, List.sum_append, List.sum_cons, List.sum_nil, Nat.add_zero]
theorem total_le {ll : List (List MV)} (h : ∀ l ∈ ll, l.length ≤ 30) : total ll ≤ 30 * ll.length := by
  induction ll with
  | nil => simp [total]
  | cons l r ih =>
    have h1 := h l (by simp)
    have h2 := ih (fun x hx => h x (by simp [hx]))
    simp only [total, List.map_cons, List.sum_cons, List.length_cons] at *
    omega
set_option maxRecDepth 100000 in
set_option maxHeartbeats 1000000 in
theorem count_any (fa : Option Addr) (fl fc : Nat) (fs : List FL) (w : World) (h : IsFly w fa fl fc fs) (h16 : fl ≤ 16) (h30 : ∀ i, i < fl → (fs.getD i default).ms.length ≤ 30) :
    Calls Tryd.prog 10 #[.slice fa fl fc] w fun e w' => e = .returned (.int .i64 (total (mss fs) : Int)) ∧ Below w.heap.size w w' := by
  have HN : Hid (fs.length = fl) := h.row.1
  have H30 : Hid (∀ i, i < fl → (fs.getD i default).ms.length ≤ 30) := h30
  clear h30
  go_enter Tryd.func10, Tryd.ntmps10
  go_wp2
  go_loopw [3, 8] (fun t i wr => ∃ (k T : Nat), k ≤ fl ∧ t = .int .i64 (T : Int) ∧ i = .int .i64 k ∧ Hid (T = total ((mss fs).take k)) ∧ T ≤ 30 * k ∧ Below w.heap.size w wr) (fun _ i _ => fl - (intOf i).toNat)
  case atStart => exact ⟨0, 0, Nat.zero_le _, rfl, rfl, rfl, by omega, Below.refl _ _⟩
  case round =>
    obtain ⟨k, T, hk, rfl, rfl, hT, hT30, hb⟩ := hrel
    by_cases hlt : k < fl
    · have hlt' : (k : Int) < (fl : Int) := by omega
      have hx30 := H30.out k hlt
      obtain ⟨b, off, rfl, hlb, hcell, hM⟩ := (h.below hb).at hlt
      have HTT : Hid (total ((mss fs).take (k + 1)) = T + (fs.getD k default).ms.length) := by
        show _ = _
        rw [total_take (by rw [mss_len, HN.out]; exact hlt), mss_at, hT.out]
      obtain ⟨f, ef⟩ : ∃ f, f = fs.getD k default := ⟨_, rfl⟩
      rw [← ef] at hcell hM hx30 HTT
      clear ef
      obtain ⟨xa, xl, xc, xs⟩ := f
      simp only [] at hcell hM hx30 HTT
      have hxl : xs.length = xl := hM.1
      rw [hxl] at hx30 HTT
      clear hxl hM
      go_wp2
      go_roundw
      case rel => exact ⟨k + 1, T + xl, by omega, by go_num, by go_num, HTT.out.symm, by omega, hb⟩
      case measure => simp [intOf]; omega
    · go_wp2
      go_ret
      refine ⟨ret_int ?_, hb⟩
      rw [hT.out, List.take_of_length_le (by rw [mss_len, HN.out]; omega)]
end Go.Proofs.YtcdfaimpbbjioaaDoor.Nt
