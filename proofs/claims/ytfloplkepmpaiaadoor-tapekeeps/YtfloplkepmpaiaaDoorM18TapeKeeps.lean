/- Texts of this claim, one behind the other. -/
import Derived.Test.YtfloplkepmpaiaaDoorM17TapeKeeps
import Derived.Test.YtfloplkepmpaiaaDoorM11TapeKeeps
import Derived.Test.YtfloplkepmpaiaaDoorM13TapeKeeps
import Derived.Test.YtfloplkepmpaiaaDoorM12TapeKeeps
import Derived.Test.YtfloplkepmpaiaaDoorM9TapeKeeps
/- The contract of wire.appendTxn: a transaction's bytes behind a row of bytes of the call's own. -/
namespace Go.Proofs.YtfloplkepmpaiaaDoor
open Go.ChangeShapes Go.WideShapes Go.ChangeAt Go.RowKit
set_option linter.unusedVariables false

set_option maxRecDepth 100000 in
set_option maxHeartbeats 1000000 in
theorem appendTxn_any (B : Nat) (va : Option Addr) (vc m : Nat) (bs : List Int) (site num : Int) (w : World) (hs : 0 ≤ site ∧ site < 256) (hm : m ≤ 100) (hB : B ≤ w.heap.size) (ho : w.ownsRow B 5 1 (.slice va m vc) m (bytesV bs)) :
    Calls Tryd.prog 24 #[.slice va m vc, .agg #[.int .i64 site, .int .i64 num]] w fun e w' => ∃ va' vc', e = .returned (.slice va' (m + 4) vc') ∧ w'.ownsRow B 5 1 (.slice va' (m + 4) vc') (m + 4) (bytesV (bs ++ (site :: be num 3))) ∧ w.grownBy w' (Value.slice va m vc).ownBlock ∧ Beyond w (.slice va m vc) (.slice va' (m + 4) vc') := by
  obtain ⟨s0, s1⟩ := hs
  obtain ⟨v, hv⟩ : ∃ v, v = Value.slice va m vc := ⟨_, rfl⟩
  rw [← hv] at ho
  obtain ⟨W, hW⟩ : ∃ W : World, W = w.alloc (.cells #[.int .i64 site, .int .i64 num] 34) := ⟨_, rfl⟩
  have hG : w.grownBy W none := by rw [hW]; exact World.grownBy_alloc w _ none
  have zW : W.heap.size = w.heap.size + 1 := by rw [hW]; simp
  have d0 : W.cell? ⟨w.heap.size, 0, none⟩ = some (.int .i64 site) := by rw [hW]; go_simp
  have d1 : W.cell? ⟨w.heap.size, 1, none⟩ = some (.int .i64 num) := by rw [hW]; go_simp
  have hoW : W.ownsRow B 5 1 v m (bytesV bs) := by rw [hW]; exact ho.alloc _
  have hlt : ∀ k, v.ownBlock = some k → k < w.heap.size := fun k hk => (ho.lt k hk).2
  have hone := isB_one W.drew site s0 s1
  rw [show W.drew.heap.size = w.heap.size + 1 from zW] at hone
  have hoA : (W.drew.alloc (.cells #[.int .u8 site] 5)).ownsRow B 5 1 v m (bytesV bs) := (World.ownsRow.drew hoW).alloc _
  have hBW : B ≤ (W.drew.alloc (.cells #[.int .u8 site] 5)).heap.size := by simp; omega
  have hA0 : (W.drew.alloc (.cells #[.int .u8 site] 5)).cell? ⟨w.heap.size, 0, none⟩ = some (.int .i64 site) := by go_simp
  have hA1 : (W.drew.alloc (.cells #[.int .u8 site] 5)).cell? ⟨w.heap.size, 1, none⟩ = some (.int .i64 num) := by go_simp
  have hnv : some w.heap.size ≠ v.ownBlock := by intro e; have := hlt _ e.symm; omega
  have w8 : IntKind.u8.wrap site = site := by simp [IntKind.wrap, IntKind.bits, IntKind.signed]; omega
  subst hv
  go_enter Tryd.func24, Tryd.ntmps24
  go_wp2
  rw [← hW]
  clear hW
  go_region_held3 (fun w' => w'.cell? ⟨w.heap.size, 0, none⟩ = some (.int .i64 site) ∧ w'.cell? ⟨w.heap.size, 1, none⟩ = some (.int .i64 num))
    (first | (go_keep; done) | exact ⟨k0, k1⟩ | exact ⟨j0, j1⟩)
    (first
      | ((refine step_append_bytes (by rfl) (.tmp 5) (.tmp 9) (by rfl) B (.slice va m vc) m bs (by rfl) hoA (some ⟨w.heap.size + 1, 0, none⟩) 1 1 [site] (by rfl) hone (by omega) hBW ?_; intro a1 c1 w1 hown1 hgrow1 hat1; have k0 := hgrow1.cell hA0 hnv; have k1 := hgrow1.cell hA1 hnv; have hn1 : some w.heap.size ≠ (Value.slice a1 (m + 1) c1).ownBlock := by (intro e; rw [← e] at hat1; rcases hat1 with h | h; exact hnv h; simp at h; omega)))
      | ((go_at_call 41; refine (appendNumber_any B (.slice a1 (m + 1) c1) (m + 1) (bs ++ [site]) num 3 _ (by omega) (by omega) (Nat.le_trans hBW hgrow1.size) hown1).mono ?_; rintro e w2 ⟨v2, rfl, hown2, hgrow2, hby2⟩; obtain ⟨a2, c2, rfl⟩ := own_slice hown2; have j0 := hgrow2.cell k0 hn1; have j1 := hgrow2.cell k1 hn1)))
  all_goals
    have hAl := World.grownBy_alloc W (.cells #[.int .u8 site] 5) none
    have hGA : w.grownBy (W.alloc (.cells #[.int .u8 site] 5)).drew (Value.slice va m vc).ownBlock := ⟨hAl.os.trans hG.os, hAl.tape.trans hG.tape, hAl.output.trans hG.output, Nat.le_trans hG.size hAl.size, fun k hk _ => (hAl.block k (by omega) (by simp)).trans (hG.block k hk (by simp))⟩
    have hby1 : Beyond w (.slice va m vc) (.slice a1 (m + 1) c1) := by
      intro j hj
      rcases hat1 with h | h
      · right; rw [← h]; exact hj
      · left; rw [hj] at h; simp at h; omega
    have g1 := grown_then hGA hgrow1 (fun j hj => .inr hj)
    have g2 := grown_then g1 hgrow2 hby1
    have hbf : Beyond w (.slice va m vc) (.slice a2 (m + 1 + 3) c2) := by
      intro j hj
      rcases hby2 j hj with h | h
      · left; have := g1.size; omega
      · exact hby1 j h
    go_wp2
    go_ret
    refine ⟨a2, c2, rfl, ?_, g2, hbf⟩
    simpa using hown2
end Go.Proofs.YtfloplkepmpaiaaDoor
/- The contract of wire.appendParts: the parts that there are, as bytes, behind a row of bytes of the call's own. -/
namespace Go.Proofs.YtfloplkepmpaiaaDoor
open Go.ChangeShapes Go.WideShapes Go.ChangeAt Go.RowKit
set_option linter.unusedVariables false

theorem grown_cell {W wr : World} {row : Option Nat} (hg : W.grownBy wr row) {b i : Nat} {x : Value} (h : W.cell? ⟨b, i, none⟩ = some x) (hne : some b ≠ row) : wr.cell? ⟨b, i, none⟩ = some x := hg.cell h hne

set_option maxRecDepth 100000 in
set_option maxHeartbeats 4000000 in
theorem appendParts_any (B : Nat) (va : Option Addr) (vc m : Nat) (bs : List Int) (h0 h1 h2 h3 h4 h5 h6 h7 : Bool) (p0 p1 p2 p3 p4 p5 p6 p7 : Int) (w : World) (hwd : WidsAt w) (hm : m ≤ 100) (hB : B ≤ w.heap.size) (hgw : 1 < B) (ho : w.ownsRow B 5 1 (.slice va m vc) m (bytesV bs)) :
    Calls Tryd.prog 25 #[.slice va m vc, .agg #[.bool h0, .bool h1, .bool h2, .bool h3, .bool h4, .bool h5, .bool h6, .bool h7], .agg #[.int .i64 p0, .int .i64 p1, .int .i64 p2, .int .i64 p3, .int .i64 p4, .int .i64 p5, .int .i64 p6, .int .i64 p7]] w fun e w' => ∃ va' vc' cs, e = .returned (.slice va' cs.length vc') ∧ w'.ownsRow B 5 1 (.slice va' cs.length vc') cs.length (bytesV cs) ∧ cs = bs ++ encParts [h0, h1, h2, h3, h4, h5, h6, h7] widL [p0, p1, p2, p3, p4, p5, p6, p7] ∧ w.grownBy w' (Value.slice va m vc).ownBlock ∧ Beyond w (.slice va m vc) (.slice va' cs.length vc') := by
  have hmb : m = bs.length := by have := ho.1; simp [bytesV] at this; omega
  obtain ⟨W, hW⟩ : ∃ W : World, W = (w.alloc (.cells #[.bool h0, .bool h1, .bool h2, .bool h3, .bool h4, .bool h5, .bool h6, .bool h7] 70)).alloc (.cells #[.int .i64 p0, .int .i64 p1, .int .i64 p2, .int .i64 p3, .int .i64 p4, .int .i64 p5, .int .i64 p6, .int .i64 p7] 73) := ⟨_, rfl⟩
  have zW : W.heap.size = w.heap.size + 2 := by rw [hW]; simp
  have hG : w.grownBy W none := by
    rw [hW]
    have g1 := World.grownBy_alloc w (.cells #[.bool h0, .bool h1, .bool h2, .bool h3, .bool h4, .bool h5, .bool h6, .bool h7] 70) none
    have g2 := World.grownBy_alloc (w.alloc (.cells #[.bool h0, .bool h1, .bool h2, .bool h3, .bool h4, .bool h5, .bool h6, .bool h7] 70)) (.cells #[.int .i64 p0, .int .i64 p1, .int .i64 p2, .int .i64 p3, .int .i64 p4, .int .i64 p5, .int .i64 p6, .int .i64 p7] 73) none
    exact g1.trans g2
  have b0 : W.cell? ⟨w.heap.size, 0, none⟩ = some (.bool h0) := by rw [hW]; go_simp
  have b1 : W.cell? ⟨w.heap.size, 1, none⟩ = some (.bool h1) := by rw [hW]; go_simp
  have b2 : W.cell? ⟨w.heap.size, 2, none⟩ = some (.bool h2) := by rw [hW]; go_simp
  have b3 : W.cell? ⟨w.heap.size, 3, none⟩ = some (.bool h3) := by rw [hW]; go_simp
  have b4 : W.cell? ⟨w.heap.size, 4, none⟩ = some (.bool h4) := by rw [hW]; go_simp
  have b5 : W.cell? ⟨w.heap.size, 5, none⟩ = some (.bool h5) := by rw [hW]; go_simp
  have b6 : W.cell? ⟨w.heap.size, 6, none⟩ = some (.bool h6) := by rw [hW]; go_simp
  have b7 : W.cell? ⟨w.heap.size, 7, none⟩ = some (.bool h7) := by rw [hW]; go_simp
  have d0 : W.cell? ⟨w.heap.size + 1, 0, none⟩ = some (.int .i64 p0) := by rw [hW]; go_simp
  have d1 : W.cell? ⟨w.heap.size + 1, 1, none⟩ = some (.int .i64 p1) := by rw [hW]; go_simp
  have d2 : W.cell? ⟨w.heap.size + 1, 2, none⟩ = some (.int .i64 p2) := by rw [hW]; go_simp
  have d3 : W.cell? ⟨w.heap.size + 1, 3, none⟩ = some (.int .i64 p3) := by rw [hW]; go_simp
  have d4 : W.cell? ⟨w.heap.size + 1, 4, none⟩ = some (.int .i64 p4) := by rw [hW]; go_simp
  have d5 : W.cell? ⟨w.heap.size + 1, 5, none⟩ = some (.int .i64 p5) := by rw [hW]; go_simp
  have d6 : W.cell? ⟨w.heap.size + 1, 6, none⟩ = some (.int .i64 p6) := by rw [hW]; go_simp
  have d7 : W.cell? ⟨w.heap.size + 1, 7, none⟩ = some (.int .i64 p7) := by rw [hW]; go_simp
  have hoW : W.ownsRow B 5 1 (.slice va m vc) m (bytesV bs) := ho.kept hG (by cases va <;> simp [Value.ownBlock])
  have hlt : ∀ k, (Value.slice va m vc).ownBlock = some k → B ≤ k ∧ k < w.heap.size := fun k hk => ho.lt k hk
  have hn0 : some w.heap.size ≠ (Value.slice va m vc).ownBlock := by intro e; have := hlt _ e.symm; omega
  have hn1 : some (w.heap.size + 1) ≠ (Value.slice va m vc).ownBlock := by intro e; have := hlt _ e.symm; omega
  have hwW : WidsAt W := hwd.grown hG (by simp)
  have KC : Hid (∀ V : World, W.grownBy V (Value.slice va m vc).ownBlock → (V.cell? ⟨w.heap.size, 0, none⟩ = some (.bool h0) ∧ V.cell? ⟨w.heap.size, 1, none⟩ = some (.bool h1) ∧ V.cell? ⟨w.heap.size, 2, none⟩ = some (.bool h2) ∧ V.cell? ⟨w.heap.size, 3, none⟩ = some (.bool h3) ∧ V.cell? ⟨w.heap.size, 4, none⟩ = some (.bool h4) ∧ V.cell? ⟨w.heap.size, 5, none⟩ = some (.bool h5) ∧ V.cell? ⟨w.heap.size, 6, none⟩ = some (.bool h6) ∧ V.cell? ⟨w.heap.size, 7, none⟩ = some (.bool h7)) ∧ (V.cell? ⟨w.heap.size + 1, 0, none⟩ = some (.int .i64 p0) ∧ V.cell? ⟨w.heap.size + 1, 1, none⟩ = some (.int .i64 p1) ∧ V.cell? ⟨w.heap.size + 1, 2, none⟩ = some (.int .i64 p2) ∧ V.cell? ⟨w.heap.size + 1, 3, none⟩ = some (.int .i64 p3) ∧ V.cell? ⟨w.heap.size + 1, 4, none⟩ = some (.int .i64 p4) ∧ V.cell? ⟨w.heap.size + 1, 5, none⟩ = some (.int .i64 p5) ∧ V.cell? ⟨w.heap.size + 1, 6, none⟩ = some (.int .i64 p6) ∧ V.cell? ⟨w.heap.size + 1, 7, none⟩ = some (.int .i64 p7))) := by
    intro V hV
    exact ⟨⟨hV.cell b0 hn0, hV.cell b1 hn0, hV.cell b2 hn0, hV.cell b3 hn0, hV.cell b4 hn0, hV.cell b5 hn0, hV.cell b6 hn0, hV.cell b7 hn0⟩, hV.cell d0 hn1, hV.cell d1 hn1, hV.cell d2 hn1, hV.cell d3 hn1, hV.cell d4 hn1, hV.cell d5 hn1, hV.cell d6 hn1, hV.cell d7 hn1⟩
  clear b0 d0 b1 d1 b2 d2 b3 d3 b4 d4 b5 d5 b6 d6 b7 d7
  obtain ⟨hs, ehs⟩ : ∃ hs, hs = [h0, h1, h2, h3, h4, h5, h6, h7] := ⟨_, rfl⟩
  obtain ⟨ps, eps⟩ : ∃ ps, ps = [p0, p1, p2, p3, p4, p5, p6, p7] := ⟨_, rfl⟩
  rw [← ehs, ← eps]
  have EH : Hid (hs = [h0, h1, h2, h3, h4, h5, h6, h7]) := ehs
  have EP : Hid (ps = [p0, p1, p2, p3, p4, p5, p6, p7]) := eps
  clear ehs eps
  obtain ⟨t0, t1, t2, t3, t4, t5, t6, t7⟩ := hwW
  go_enter Tryd.func25, Tryd.ntmps25
  go_upto_region 1 with (fail)
  rw [← hW]
  clear hW
  go_wp2
  go_loopw [0, 10] (fun s0 s10 wr => ∃ (k : Nat) (a1 : Option Addr) (c1 : Nat) (cs : List Int), k ≤ 8 ∧ s10 = .int .i64 k ∧ s0 = .slice a1 cs.length c1 ∧ wr.ownsRow B 5 1 (.slice a1 cs.length c1) cs.length (bytesV cs) ∧ Hid (cs ++ encParts (hs.drop k) (widL.drop k) (ps.drop k) = bs ++ encParts hs widL ps) ∧ cs.length ≤ m + 4 * k ∧ W.grownBy wr (Value.slice va m vc).ownBlock ∧ Beyond W (.slice va m vc) (.slice a1 cs.length c1)) (fun _ i _ => 8 - (intOf i).toNat)
  case atStart => exact ⟨0, va, vc, bs, by omega, rfl, by rw [hmb], by rw [← hmb]; exact hoW, rfl, by omega, grown_refl _ _, fun j hj => .inr (by rw [hmb]; exact hj)⟩
  case round =>
    obtain ⟨k, a1, c1, cs, hk, rfl, rfl, hown, hat, hle, hgr, hby⟩ := hrel
    obtain ⟨⟨b0, b1, b2, b3, b4, b5, b6, b7⟩, d0, d1, d2, d3, d4, d5, d6, d7⟩ := KC.out _ hgr
    rcases (by omega : k = 0 ∨ k = 1 ∨ k = 2 ∨ k = 3 ∨ k = 4 ∨ k = 5 ∨ k = 6 ∨ k = 7 ∨ k = 8) with rfl | rfl | rfl | rfl | rfl | rfl | rfl | rfl | rfl
    · have hx := idxA0 1 1 4 3 3 1 1 1
      cases hb : h0 with
      | true =>
        have hn : Hid ((cs ++ be p0 1) ++ encParts (hs.drop 1) (widL.drop 1) (ps.drop 1) = bs ++ encParts hs widL ps) := by show _ = _; rw [← hat.out, EH.out, EP.out]; simp [encParts, widL, hb]
        rw [hb] at b0
        clear hat
        go_wp2_with (go_at_call 41; refine (appendNumber_any B (.slice a1 cs.length c1) cs.length cs p0 1 _ (by omega) (by omega) (by have := hgr.size; omega) hown).mono ?_; rintro e w2 ⟨v2, rfl, hown2, hgrow2, hby2⟩; obtain ⟨a2, c2, rfl⟩ := own_slice hown2)
        have hgr' := grown_then hgr hgrow2 hby
        have hby' : Beyond W (.slice va m vc) (.slice a2 (cs.length + 1) c2) := by
          intro j hj
          rcases hby2 j hj with h | h
          · left; have := hgr.size; omega
          · exact hby j h
        have hl2 : (cs ++ be p0 1).length = cs.length + 1 := by simp [be_len]
        go_roundw
        case rel => exact ⟨1, a2, c2, cs ++ be p0 1, by omega, by go_num, by rw [hl2], by rw [hl2]; exact hown2, hn, by rw [hl2]; omega, hgr', by rw [hl2]; exact hby'⟩
        case measure => simp [intOf]
      | false =>
        have hn : Hid (cs ++ encParts (hs.drop 1) (widL.drop 1) (ps.drop 1) = bs ++ encParts hs widL ps) := by show _ = _; rw [← hat.out, EH.out, EP.out]; simp [encParts, widL, hb]
        rw [hb] at b0
        clear hat
        go_wp2
        go_roundw
        case rel => exact ⟨1, a1, c1, cs, by omega, by go_num, rfl, hown, hn, by omega, hgr, hby⟩
        case measure => simp [intOf]
    · have hx := idxA1 1 1 4 3 3 1 1 1
      cases hb : h1 with
      | true =>
        have hn : Hid ((cs ++ be p1 1) ++ encParts (hs.drop 2) (widL.drop 2) (ps.drop 2) = bs ++ encParts hs widL ps) := by show _ = _; rw [← hat.out, EH.out, EP.out]; simp [encParts, widL, hb]
        rw [hb] at b1
        clear hat
        go_wp2_with (go_at_call 41; refine (appendNumber_any B (.slice a1 cs.length c1) cs.length cs p1 1 _ (by omega) (by omega) (by have := hgr.size; omega) hown).mono ?_; rintro e w2 ⟨v2, rfl, hown2, hgrow2, hby2⟩; obtain ⟨a2, c2, rfl⟩ := own_slice hown2)
        have hgr' := grown_then hgr hgrow2 hby
        have hby' : Beyond W (.slice va m vc) (.slice a2 (cs.length + 1) c2) := by
          intro j hj
          rcases hby2 j hj with h | h
          · left; have := hgr.size; omega
          · exact hby j h
        have hl2 : (cs ++ be p1 1).length = cs.length + 1 := by simp [be_len]
        go_roundw
        case rel => exact ⟨2, a2, c2, cs ++ be p1 1, by omega, by go_num, by rw [hl2], by rw [hl2]; exact hown2, hn, by rw [hl2]; omega, hgr', by rw [hl2]; exact hby'⟩
        case measure => simp [intOf]
      | false =>
        have hn : Hid (cs ++ encParts (hs.drop 2) (widL.drop 2) (ps.drop 2) = bs ++ encParts hs widL ps) := by show _ = _; rw [← hat.out, EH.out, EP.out]; simp [encParts, widL, hb]
        rw [hb] at b1
        clear hat
        go_wp2
        go_roundw
        case rel => exact ⟨2, a1, c1, cs, by omega, by go_num, rfl, hown, hn, by omega, hgr, hby⟩
        case measure => simp [intOf]
    · have hx := idxA2 1 1 4 3 3 1 1 1
      cases hb : h2 with
      | true =>
        have hn : Hid ((cs ++ be p2 4) ++ encParts (hs.drop 3) (widL.drop 3) (ps.drop 3) = bs ++ encParts hs widL ps) := by show _ = _; rw [← hat.out, EH.out, EP.out]; simp [encParts, widL, hb]
        rw [hb] at b2
        clear hat
        go_wp2_with (go_at_call 41; refine (appendNumber_any B (.slice a1 cs.length c1) cs.length cs p2 4 _ (by omega) (by omega) (by have := hgr.size; omega) hown).mono ?_; rintro e w2 ⟨v2, rfl, hown2, hgrow2, hby2⟩; obtain ⟨a2, c2, rfl⟩ := own_slice hown2)
        have hgr' := grown_then hgr hgrow2 hby
        have hby' : Beyond W (.slice va m vc) (.slice a2 (cs.length + 4) c2) := by
          intro j hj
          rcases hby2 j hj with h | h
          · left; have := hgr.size; omega
          · exact hby j h
        have hl2 : (cs ++ be p2 4).length = cs.length + 4 := by simp [be_len]
        go_roundw
        case rel => exact ⟨3, a2, c2, cs ++ be p2 4, by omega, by go_num, by rw [hl2], by rw [hl2]; exact hown2, hn, by rw [hl2]; omega, hgr', by rw [hl2]; exact hby'⟩
        case measure => simp [intOf]
      | false =>
        have hn : Hid (cs ++ encParts (hs.drop 3) (widL.drop 3) (ps.drop 3) = bs ++ encParts hs widL ps) := by show _ = _; rw [← hat.out, EH.out, EP.out]; simp [encParts, widL, hb]
        rw [hb] at b2
        clear hat
        go_wp2
        go_roundw
        case rel => exact ⟨3, a1, c1, cs, by omega, by go_num, rfl, hown, hn, by omega, hgr, hby⟩
        case measure => simp [intOf]
    · have hx := idxA3 1 1 4 3 3 1 1 1
      cases hb : h3 with
      | true =>
        have hn : Hid ((cs ++ be p3 3) ++ encParts (hs.drop 4) (widL.drop 4) (ps.drop 4) = bs ++ encParts hs widL ps) := by show _ = _; rw [← hat.out, EH.out, EP.out]; simp [encParts, widL, hb]
        rw [hb] at b3
        clear hat
        go_wp2_with (go_at_call 41; refine (appendNumber_any B (.slice a1 cs.length c1) cs.length cs p3 3 _ (by omega) (by omega) (by have := hgr.size; omega) hown).mono ?_; rintro e w2 ⟨v2, rfl, hown2, hgrow2, hby2⟩; obtain ⟨a2, c2, rfl⟩ := own_slice hown2)
        have hgr' := grown_then hgr hgrow2 hby
        have hby' : Beyond W (.slice va m vc) (.slice a2 (cs.length + 3) c2) := by
          intro j hj
          rcases hby2 j hj with h | h
          · left; have := hgr.size; omega
          · exact hby j h
        have hl2 : (cs ++ be p3 3).length = cs.length + 3 := by simp [be_len]
        go_roundw
        case rel => exact ⟨4, a2, c2, cs ++ be p3 3, by omega, by go_num, by rw [hl2], by rw [hl2]; exact hown2, hn, by rw [hl2]; omega, hgr', by rw [hl2]; exact hby'⟩
        case measure => simp [intOf]
      | false =>
        have hn : Hid (cs ++ encParts (hs.drop 4) (widL.drop 4) (ps.drop 4) = bs ++ encParts hs widL ps) := by show _ = _; rw [← hat.out, EH.out, EP.out]; simp [encParts, widL, hb]
        rw [hb] at b3
        clear hat
        go_wp2
        go_roundw
        case rel => exact ⟨4, a1, c1, cs, by omega, by go_num, rfl, hown, hn, by omega, hgr, hby⟩
        case measure => simp [intOf]
    · have hx := idxA4 1 1 4 3 3 1 1 1
      cases hb : h4 with
      | true =>
        have hn : Hid ((cs ++ be p4 3) ++ encParts (hs.drop 5) (widL.drop 5) (ps.drop 5) = bs ++ encParts hs widL ps) := by show _ = _; rw [← hat.out, EH.out, EP.out]; simp [encParts, widL, hb]
        rw [hb] at b4
        clear hat
        go_wp2_with (go_at_call 41; refine (appendNumber_any B (.slice a1 cs.length c1) cs.length cs p4 3 _ (by omega) (by omega) (by have := hgr.size; omega) hown).mono ?_; rintro e w2 ⟨v2, rfl, hown2, hgrow2, hby2⟩; obtain ⟨a2, c2, rfl⟩ := own_slice hown2)
        have hgr' := grown_then hgr hgrow2 hby
        have hby' : Beyond W (.slice va m vc) (.slice a2 (cs.length + 3) c2) := by
          intro j hj
          rcases hby2 j hj with h | h
          · left; have := hgr.size; omega
          · exact hby j h
        have hl2 : (cs ++ be p4 3).length = cs.length + 3 := by simp [be_len]
        go_roundw
        case rel => exact ⟨5, a2, c2, cs ++ be p4 3, by omega, by go_num, by rw [hl2], by rw [hl2]; exact hown2, hn, by rw [hl2]; omega, hgr', by rw [hl2]; exact hby'⟩
        case measure => simp [intOf]
      | false =>
        have hn : Hid (cs ++ encParts (hs.drop 5) (widL.drop 5) (ps.drop 5) = bs ++ encParts hs widL ps) := by show _ = _; rw [← hat.out, EH.out, EP.out]; simp [encParts, widL, hb]
        rw [hb] at b4
        clear hat
        go_wp2
        go_roundw
        case rel => exact ⟨5, a1, c1, cs, by omega, by go_num, rfl, hown, hn, by omega, hgr, hby⟩
        case measure => simp [intOf]
    · have hx := idxA5 1 1 4 3 3 1 1 1
      cases hb : h5 with
      | true =>
        have hn : Hid ((cs ++ be p5 1) ++ encParts (hs.drop 6) (widL.drop 6) (ps.drop 6) = bs ++ encParts hs widL ps) := by show _ = _; rw [← hat.out, EH.out, EP.out]; simp [encParts, widL, hb]
        rw [hb] at b5
        clear hat
        go_wp2_with (go_at_call 41; refine (appendNumber_any B (.slice a1 cs.length c1) cs.length cs p5 1 _ (by omega) (by omega) (by have := hgr.size; omega) hown).mono ?_; rintro e w2 ⟨v2, rfl, hown2, hgrow2, hby2⟩; obtain ⟨a2, c2, rfl⟩ := own_slice hown2)
        have hgr' := grown_then hgr hgrow2 hby
        have hby' : Beyond W (.slice va m vc) (.slice a2 (cs.length + 1) c2) := by
          intro j hj
          rcases hby2 j hj with h | h
          · left; have := hgr.size; omega
          · exact hby j h
        have hl2 : (cs ++ be p5 1).length = cs.length + 1 := by simp [be_len]
        go_roundw
        case rel => exact ⟨6, a2, c2, cs ++ be p5 1, by omega, by go_num, by rw [hl2], by rw [hl2]; exact hown2, hn, by rw [hl2]; omega, hgr', by rw [hl2]; exact hby'⟩
        case measure => simp [intOf]
      | false =>
        have hn : Hid (cs ++ encParts (hs.drop 6) (widL.drop 6) (ps.drop 6) = bs ++ encParts hs widL ps) := by show _ = _; rw [← hat.out, EH.out, EP.out]; simp [encParts, widL, hb]
        rw [hb] at b5
        clear hat
        go_wp2
        go_roundw
        case rel => exact ⟨6, a1, c1, cs, by omega, by go_num, rfl, hown, hn, by omega, hgr, hby⟩
        case measure => simp [intOf]
    · have hx := idxA6 1 1 4 3 3 1 1 1
      cases hb : h6 with
      | true =>
        have hn : Hid ((cs ++ be p6 1) ++ encParts (hs.drop 7) (widL.drop 7) (ps.drop 7) = bs ++ encParts hs widL ps) := by show _ = _; rw [← hat.out, EH.out, EP.out]; simp [encParts, widL, hb]
        rw [hb] at b6
        clear hat
        go_wp2_with (go_at_call 41; refine (appendNumber_any B (.slice a1 cs.length c1) cs.length cs p6 1 _ (by omega) (by omega) (by have := hgr.size; omega) hown).mono ?_; rintro e w2 ⟨v2, rfl, hown2, hgrow2, hby2⟩; obtain ⟨a2, c2, rfl⟩ := own_slice hown2)
        have hgr' := grown_then hgr hgrow2 hby
        have hby' : Beyond W (.slice va m vc) (.slice a2 (cs.length + 1) c2) := by
          intro j hj
          rcases hby2 j hj with h | h
          · left; have := hgr.size; omega
          · exact hby j h
        have hl2 : (cs ++ be p6 1).length = cs.length + 1 := by simp [be_len]
        go_roundw
        case rel => exact ⟨7, a2, c2, cs ++ be p6 1, by omega, by go_num, by rw [hl2], by rw [hl2]; exact hown2, hn, by rw [hl2]; omega, hgr', by rw [hl2]; exact hby'⟩
        case measure => simp [intOf]
      | false =>
        have hn : Hid (cs ++ encParts (hs.drop 7) (widL.drop 7) (ps.drop 7) = bs ++ encParts hs widL ps) := by show _ = _; rw [← hat.out, EH.out, EP.out]; simp [encParts, widL, hb]
        rw [hb] at b6
        clear hat
        go_wp2
        go_roundw
        case rel => exact ⟨7, a1, c1, cs, by omega, by go_num, rfl, hown, hn, by omega, hgr, hby⟩
        case measure => simp [intOf]
    · have hx := idxA7 1 1 4 3 3 1 1 1
      cases hb : h7 with
      | true =>
        have hn : Hid ((cs ++ be p7 1) ++ encParts (hs.drop 8) (widL.drop 8) (ps.drop 8) = bs ++ encParts hs widL ps) := by show _ = _; rw [← hat.out, EH.out, EP.out]; simp [encParts, widL, hb]
        rw [hb] at b7
        clear hat
        go_wp2_with (go_at_call 41; refine (appendNumber_any B (.slice a1 cs.length c1) cs.length cs p7 1 _ (by omega) (by omega) (by have := hgr.size; omega) hown).mono ?_; rintro e w2 ⟨v2, rfl, hown2, hgrow2, hby2⟩; obtain ⟨a2, c2, rfl⟩ := own_slice hown2)
        have hgr' := grown_then hgr hgrow2 hby
        have hby' : Beyond W (.slice va m vc) (.slice a2 (cs.length + 1) c2) := by
          intro j hj
          rcases hby2 j hj with h | h
          · left; have := hgr.size; omega
          · exact hby j h
        have hl2 : (cs ++ be p7 1).length = cs.length + 1 := by simp [be_len]
        go_roundw
        case rel => exact ⟨8, a2, c2, cs ++ be p7 1, by omega, by go_num, by rw [hl2], by rw [hl2]; exact hown2, hn, by rw [hl2]; omega, hgr', by rw [hl2]; exact hby'⟩
        case measure => simp [intOf]
      | false =>
        have hn : Hid (cs ++ encParts (hs.drop 8) (widL.drop 8) (ps.drop 8) = bs ++ encParts hs widL ps) := by show _ = _; rw [← hat.out, EH.out, EP.out]; simp [encParts, widL, hb]
        rw [hb] at b7
        clear hat
        go_wp2
        go_roundw
        case rel => exact ⟨8, a1, c1, cs, by omega, by go_num, rfl, hown, hn, by omega, hgr, hby⟩
        case measure => simp [intOf]
    · have hfin : cs = bs ++ encParts hs widL ps := by have := hat.out; rw [EH.out, EP.out] at this ⊢; simpa [widL, encParts] using this
      go_wp2
      go_ret
      refine ⟨a1, c1, cs, rfl, hown, hfin, ?_, ?_⟩
      · exact ⟨hgr.os.trans hG.os, hgr.tape.trans hG.tape, hgr.output.trans hG.output, Nat.le_trans hG.size hgr.size, fun q hq hne => (hgr.block q (by omega) hne).trans (hG.block q hq (by simp))⟩
      · intro j hj
        rcases hby j hj with h | h
        · left; omega
        · exact .inr h
end Go.Proofs.YtfloplkepmpaiaaDoor
/- The contract of wire.EncodeMessage: a message that may be as its bytes, in new memory; else the fault that msgFault tells. -/
namespace Go.Proofs.YtfloplkepmpaiaaDoor
open Go.ChangeShapes Go.WideShapes Go.ChangeAt Go.RowKit
set_option linter.unusedVariables false

/-- Bytes that are answered, and an error: they lie in new memory. -/
def BytesAns (w w' : World) (e : Ending) (bs : List Int) (err : Int) : Prop :=
  ∃ a len cap, e = .returned (.tuple #[.slice a len cap, .int .i64 err]) ∧ IsB w' a len cap bs ∧ (∀ b off, a = some ⟨b, off, none⟩ → w.heap.size ≤ b) ∧ Below w.heap.size w w'

theorem own_lit3 {w : World} {B : Nat} (x y z : Int) (hB : B ≤ w.heap.size) : (w.alloc (.cells #[.int .u8 x, .int .u8 y, .int .u8 z] 5)).ownsRow B 5 1 (.slice (some ⟨w.heap.size, 0, none⟩) 3 3) 3 (bytesV [x, y, z]) :=
  ⟨rfl, .inr ⟨w.heap.size, 3, _, rfl, hB, heap_alloc_new w _, Nat.le_refl _, by unfold maxLen; omega, rfl, rfl⟩⟩
theorem own_lit1 {w : World} {B : Nat} (x : Int) (hB : B ≤ w.heap.size) : (w.alloc (.cells #[.int .u8 x] 5)).ownsRow B 5 1 (.slice (some ⟨w.heap.size, 0, none⟩) 1 1) 1 (bytesV [x]) :=
  ⟨rfl, .inr ⟨w.heap.size, 1, _, rfl, hB, heap_alloc_new w _, Nat.le_refl _, by unfold maxLen; omega, rfl, rfl⟩⟩
theorem u8_id {n : Int} (h0 : 0 ≤ n) (h1 : n < 256) : IntKind.u8.wrap n = n := by simp [IntKind.wrap, IntKind.bits, IntKind.signed]; omega
theorem encParts_byt : ∀ (hs : List Bool) (ws : List Nat) (ps : List Int), Byt (encParts hs ws ps) := by
  intro hs
  induction hs with
  | nil => intro ws ps b hb; simp [encParts] at hb
  | cons h hs ih =>
    intro ws ps
    cases ws with
    | nil => intro b hb; simp [encParts] at hb
    | cons k ws =>
      cases ps with
      | nil => intro b hb; simp [encParts] at hb
      | cons q ps =>
        simp only [encParts]
        refine Byt.app ?_ (ih ws ps)
        cases h
        · intro b hb; simp at hb
        · exact be_byt q k
theorem below_row {B : Nat} {a b c : World} {v : Value} (h : Below B a b) (hg : b.grownBy c v.ownBlock) (hb : B ≤ b.heap.size) (hv : ∀ k, v.ownBlock = some k → B ≤ k) : Below B a c := h.grown hg hb hv

set_option maxRecDepth 100000 in
set_option maxHeartbeats 4000000 in
theorem encodeMessage_any (s p : Int) (a : Option Addr) (len cap : Nat) (ls : List (Int × Int)) (m : MV) (w : World) (h : IsLabs w a len cap ls) (hm : HasAt w 0 mHas) (ht : TopsAt w) (hwd : WidsAt w) :
    Calls Tryd.prog 9 #[.agg #[.int .i64 s, .slice a len cap, .int .i64 p], m.val] w fun e w' => BytesAns w w' e (if msgFault s ls p m = 0 then msgBytes m else []) (msgFault s ls p m) := by
  have hgT : 3 < w.heap.size := World.block_lt_of_cell? w _ ht.1
  have hgM : 0 < w.heap.size := hm.lt (by decide)
  have hgW : 1 < w.heap.size := hwd.lt
  have hPs := fun w' => messageParts_any m w'
  have hCk := fun w' h1 h2 h3 => checkMessage_any s p a len cap ls m w' h1 h2 h3
  have hMay := @may_msg s ls p m
  have EB : Hid (∀ (hs : List Bool), mHasOf m.kind = hs → msgBytes m = ([m.kind, m.frm, m.dst] ++ (m.site :: be m.num 3)) ++ encParts hs widL m.parts) := by
    show ∀ (hs : List Bool), mHasOf m.kind = hs → msgBytes m = ([m.kind, m.frm, m.dst] ++ (m.site :: be m.num 3)) ++ encParts hs widL m.parts
    intro hs e
    rw [← e]
    simp [msgBytes]
  obtain ⟨kind, frm, dst, site, num, label, key, value, version, ask, yes, code⟩ := m
  simp only [MV.val] at hPs hCk hMay EB ⊢
  obtain ⟨FV, eFV⟩ : ∃ FV, FV = msgFault s ls p ⟨kind, frm, dst, site, num, label, key, value, version, ask, yes, code⟩ := ⟨_, rfl⟩
  obtain ⟨MB, eMB⟩ : ∃ MB, MB = msgBytes ⟨kind, frm, dst, site, num, label, key, value, version, ask, yes, code⟩ := ⟨_, rfl⟩
  rw [← eFV] at hCk hMay ⊢
  rw [← eMB] at EB ⊢
  have EF : Hid (FV = msgFault s ls p ⟨kind, frm, dst, site, num, label, key, value, version, ask, yes, code⟩) := eFV
  clear eFV eMB
  obtain ⟨W, hW⟩ : ∃ W : World, W = (w.alloc (.cells #[.int .i64 s, .slice a len cap, .int .i64 p] 27)).alloc (.cells #[.int .i64 kind, .int .i64 frm, .int .i64 dst, .int .i64 site, .int .i64 num, .int .i64 label, .int .i64 key, .int .i64 value, .int .i64 version, .int .i64 ask, .bool yes, .int .i64 code] 36) := ⟨_, rfl⟩
  have hB : Below w.heap.size w W := by rw [hW]; exact ((Below.refl _ _).alloc (Nat.le_refl _) _).alloc (by simp) _
  have zW : W.heap.size = w.heap.size + 2 := by rw [hW]; simp
  have c0 : W.cell? ⟨w.heap.size, 0, none⟩ = some (.int .i64 s) := by rw [hW]; go_simp
  have c1 : W.cell? ⟨w.heap.size, 1, none⟩ = some (.slice a len cap) := by rw [hW]; go_simp
  have c2 : W.cell? ⟨w.heap.size, 2, none⟩ = some (.int .i64 p) := by rw [hW]; go_simp
  have d0 : W.cell? ⟨w.heap.size + 1, 0, none⟩ = some (.int .i64 kind) := by rw [hW]; go_simp
  have d1 : W.cell? ⟨w.heap.size + 1, 1, none⟩ = some (.int .i64 frm) := by rw [hW]; go_simp
  have d2 : W.cell? ⟨w.heap.size + 1, 2, none⟩ = some (.int .i64 dst) := by rw [hW]; go_simp
  have d3 : W.cell? ⟨w.heap.size + 1, 3, none⟩ = some (.int .i64 site) := by rw [hW]; go_simp
  have d4 : W.cell? ⟨w.heap.size + 1, 4, none⟩ = some (.int .i64 num) := by rw [hW]; go_simp
  have d5 : W.cell? ⟨w.heap.size + 1, 5, none⟩ = some (.int .i64 label) := by rw [hW]; go_simp
  have d6 : W.cell? ⟨w.heap.size + 1, 6, none⟩ = some (.int .i64 key) := by rw [hW]; go_simp
  have d7 : W.cell? ⟨w.heap.size + 1, 7, none⟩ = some (.int .i64 value) := by rw [hW]; go_simp
  have d8 : W.cell? ⟨w.heap.size + 1, 8, none⟩ = some (.int .i64 version) := by rw [hW]; go_simp
  have d9 : W.cell? ⟨w.heap.size + 1, 9, none⟩ = some (.int .i64 ask) := by rw [hW]; go_simp
  have d10 : W.cell? ⟨w.heap.size + 1, 10, none⟩ = some (.bool yes) := by rw [hW]; go_simp
  have d11 : W.cell? ⟨w.heap.size + 1, 11, none⟩ = some (.int .i64 code) := by rw [hW]; go_simp
  have hLW := h.below hB
  have tW : TopsAt W := ht.below hB (by omega)
  have mW : HasAt W 0 mHas := hm.below hB (by omega)
  have wW : WidsAt W := hwd.below hB (by omega)
  have z1 : w.heap.size + 1 < W.heap.size := by omega
  have z0 : w.heap.size < W.heap.size := by omega
  have zM : 0 < W.heap.size := by omega
  go_enter Tryd.func9, Tryd.ntmps9
  go_upto_region 1 with (fail)
  rw [← hW]
  clear hW
  go_upto_region 2 with (go_at_call 23; refine (hCk _ hLW mW tW).mono ?_; rintro e w1 ⟨rfl, hb1⟩)
  obtain ⟨hc, hf⟩ := bcell hb1
  by_cases hF : FV = 0
  · have hF0 := hF
    subst hF
    obtain ⟨hcf, hk, hr, hform⟩ := hMay rfl
    obtain ⟨s1, s4, n1, n6, _, _, _⟩ := cfg_zero hcf
    have kb := inR_of hk
    have hr' := hr
    simp only [msgRange, txnOK, Bool.and_eq_true] at hr'
    have b1 := inR_of hr'.1.1.1
    have b2 := inR_of hr'.1.1.2
    have b3 := inR_of hr'.1.2.1
    clear hr hr' hform hcf hk
    obtain ⟨k, rfl⟩ : ∃ k : Nat, kind = k := ⟨kind.toNat, by omega⟩
    have k10 : k < 10 := by omega
    have k9 : (k : Int) < 10 := by omega
    have u1 := u8_id (n := (k : Int)) (by omega) (by omega)
    have u2 := u8_id (n := frm) (by omega) (by omega)
    have u3 := u8_id (n := dst) (by omega) (by omega)
    go_upto_region 5 with (fail)
    obtain ⟨V, hV⟩ : ∃ V : World, V = w1.alloc (.cells #[.int .u8 (k : Int), .int .u8 frm, .int .u8 dst] 5) := ⟨_, rfl⟩
    have oV : V.ownsRow W.heap.size 5 1 (.slice (some ⟨w1.heap.size, 0, none⟩) 3 3) 3 (bytesV [(k : Int), frm, dst]) := by rw [hV]; exact own_lit3 _ _ _ hb1.size
    have hWV : Below W.heap.size W V := by rw [hV]; exact hb1.alloc hb1.size _
    have zV : V.heap.size = w1.heap.size + 1 := by rw [hV]; simp
    rw [← hV]
    clear hV hc hf
    obtain ⟨hc, hf⟩ := bcell hWV
    go_upto_region 6 with (go_at_call 24; refine (appendTxn_any W.heap.size _ 3 3 [(k : Int), frm, dst] site num _ (by omega) (by omega) hWV.size oV).mono ?_; rintro e w2 ⟨a2, v2, rfl, own2, gr2, by2⟩)
    have hW2 : Below W.heap.size W w2 := hWV.grown gr2 hWV.size (fun q hq => (oV.lt q hq).1)
    clear hc hf
    have EH : Hid (mHas.getD k [] = [(mHas.getD k []).getD 0 false, (mHas.getD k []).getD 1 false, (mHas.getD k []).getD 2 false, (mHas.getD k []).getD 3 false, (mHas.getD k []).getD 4 false, (mHas.getD k []).getD 5 false, (mHas.getD k []).getD 6 false, (mHas.getD k []).getD 7 false]) := mHas_eight k k10
    have f0 := mW k 0 k10 (by decide)
    have f1 := mW k 1 k10 (by decide)
    have f2 := mW k 2 k10 (by decide)
    have f3 := mW k 3 k10 (by decide)
    have f4 := mW k 4 k10 (by decide)
    have f5 := mW k 5 k10 (by decide)
    have f6 := mW k 6 k10 (by decide)
    have f7 := mW k 7 k10 (by decide)
    obtain ⟨h0, eh0⟩ : ∃ x, x = (mHas.getD k []).getD 0 false := ⟨_, rfl⟩
    obtain ⟨h1, eh1⟩ : ∃ x, x = (mHas.getD k []).getD 1 false := ⟨_, rfl⟩
    obtain ⟨h2, eh2⟩ : ∃ x, x = (mHas.getD k []).getD 2 false := ⟨_, rfl⟩
    obtain ⟨h3, eh3⟩ : ∃ x, x = (mHas.getD k []).getD 3 false := ⟨_, rfl⟩
    obtain ⟨h4, eh4⟩ : ∃ x, x = (mHas.getD k []).getD 4 false := ⟨_, rfl⟩
    obtain ⟨h5, eh5⟩ : ∃ x, x = (mHas.getD k []).getD 5 false := ⟨_, rfl⟩
    obtain ⟨h6, eh6⟩ : ∃ x, x = (mHas.getD k []).getD 6 false := ⟨_, rfl⟩
    obtain ⟨h7, eh7⟩ : ∃ x, x = (mHas.getD k []).getD 7 false := ⟨_, rfl⟩
    rw [← eh0, ← eh1, ← eh2, ← eh3, ← eh4, ← eh5, ← eh6, ← eh7] at EH
    rw [← eh0] at f0
    rw [← eh1] at f1
    rw [← eh2] at f2
    rw [← eh3] at f3
    rw [← eh4] at f4
    rw [← eh5] at f5
    rw [← eh6] at f6
    rw [← eh7] at f7
    clear eh0 eh1 eh2 eh3 eh4 eh5 eh6 eh7
    simp only [Nat.add_zero] at f0
    have EB2 : Hid (MB = ([(k : Int), frm, dst] ++ (site :: be num 3)) ++ encParts [h0, h1, h2, h3, h4, h5, h6, h7] widL [label, key, value, version, ask, bit yes, code, 0]) := EB.out _ (by simpa [mHasOf] using EH.out)
    clear EB EH
    have hD : Below w2.heap.size w2 w2.drew := (Below.refl _ _).drew
    have hWD : Below W.heap.size W w2.drew := hW2.trans (hD.mono hW2.size)
    have oD := own_bel own2 hD
    have KC : Hid (∀ V : World, Below W.heap.size W V → ∀ b o, b < W.heap.size → V.cell? ⟨b, o, none⟩ = W.cell? ⟨b, o, none⟩) := fun V hV b o hb => hV.cell (p := ⟨b, o, none⟩) hb
    have hc := KC.out _ hW2
    go_region_held3 (fun V => ∀ b o, b < W.heap.size → V.cell? ⟨b, o, none⟩ = W.cell? ⟨b, o, none⟩)
      (first | exact KC.out _ hW2 | exact KC.out _ hWD | exact KC.out _ hW3 | exact KC.out _ hW4)
      (first
        | ((go_at_call 26; refine (hPs _).mono ?_; rintro e w3 ⟨rfl, hb3⟩; have hW3 : Below W.heap.size W w3 := hWD.trans (hb3.mono hWD.size); have o3 := own_bel oD hb3; have wd3 := wW.below hW3 (by omega)))
        | ((go_at_call 25; refine (appendParts_any W.heap.size a2 v2 7 _ h0 h1 h2 h3 h4 h5 h6 h7 label key value version ask (bit yes) code 0 _ wd3 (by omega) hW3.size (by omega) o3).mono ?_; rintro e w4 ⟨a4, v4, cs, rfl, own4, ecs0, gr4, by4⟩; have ecs : Hid (cs = _) := ecs0; clear ecs0; have hW4 : Below W.heap.size W w4 := hW3.grown gr4 hW3.size (fun q hq => (o3.lt q hq).1))))
    all_goals
      have hbyt : Byt cs := by
        rw [ecs.out]
        refine Byt.app (Byt.app ?_ ?_) (encParts_byt _ _ _)
        · intro x hx; simp at hx; omega
        · intro x hx
          rcases List.mem_cons.1 hx with rfl | hx
          · omega
          · exact be_byt _ _ x hx
      obtain ⟨hI, hge⟩ := isB_slice own4 hbyt
      have hMB : MB = cs := by rw [EB2.out, ecs.out]
      have hwW4 := hB.trans (hW4.mono hB.size)
      clear hMay
      go_wp2
      go_ret2
      refine ⟨a4, cs.length, v4, rfl, ?_, fun b off e => by have := hge b off e; omega, hwW4⟩
      simpa [hMB] using hI
  · go_wp2
    go_ret2
    (try rw [if_neg hF])
    exact ⟨none, 0, 0, rfl, isB_nil _, fun b off e => by simp at e, hB.trans (hb1.mono hB.size)⟩
end Go.Proofs.YtfloplkepmpaiaaDoor
