/- The contract of wire.appendParts: the parts that there are, as bytes, behind a row of bytes of the call's own. -/
import Derived.Test.YtilhkonanncfiaaDoorWTxn
import Derived.Test.YtilhkonanncfiaaDoorWParts
import Derived.Test.YtilhkonanncfiaaDoorWWids
namespace Go.Proofs.YtilhkonanncfiaaDoor
open Go.ChangeShapes Go.WideShapes Go.ChangeAt Go.RowKit
set_option linter.unusedVariables false

theorem grown_cell {W wr : World} {row : Option Nat} (hg : W.grownBy wr row) {b i : Nat} {x : Value} (h : W.cell? ⟨b, i, none⟩ = some x) (hne : some b ≠ row) : wr.cell? ⟨b, i, none⟩ = some x := hg.cell h hne

set_option maxRecDepth 100000 in
set_option maxHeartbeats 4000000 in
theorem appendParts_any (B : Nat) (va : Option Addr) (vc m : Nat) (bs : List Int) (h0 h1 h2 h3 h4 h5 h6 h7 : Bool) (p0 p1 p2 p3 p4 p5 p6 p7 : Int) (w : World) (hwd : WidsAt w) (hm : m ≤ 100) (hB : B ≤ w.heap.size) (hgw : 2 < B) (ho : w.ownsRow B 5 1 (.slice va m vc) m (bytesV bs)) :
    Calls Tryd.prog 16 #[.slice va m vc, .agg #[.bool h0, .bool h1, .bool h2, .bool h3, .bool h4, .bool h5, .bool h6, .bool h7], .agg #[.int .i64 p0, .int .i64 p1, .int .i64 p2, .int .i64 p3, .int .i64 p4, .int .i64 p5, .int .i64 p6, .int .i64 p7]] w fun e w' => ∃ va' vc' cs, e = .returned (.slice va' cs.length vc') ∧ w'.ownsRow B 5 1 (.slice va' cs.length vc') cs.length (bytesV cs) ∧ cs = bs ++ encParts [h0, h1, h2, h3, h4, h5, h6, h7] widL [p0, p1, p2, p3, p4, p5, p6, p7] ∧ w.grownBy w' (Value.slice va m vc).ownBlock ∧ Beyond w (.slice va m vc) (.slice va' cs.length vc') := by
  have hmb : m = bs.length := by have := ho.1; simp [bytesV] at this; omega
  obtain ⟨W, hW⟩ : ∃ W : World, W = (w.alloc (.cells #[.bool h0, .bool h1, .bool h2, .bool h3, .bool h4, .bool h5, .bool h6, .bool h7] 50)).alloc (.cells #[.int .i64 p0, .int .i64 p1, .int .i64 p2, .int .i64 p3, .int .i64 p4, .int .i64 p5, .int .i64 p6, .int .i64 p7] 53) := ⟨_, rfl⟩
  have zW : W.heap.size = w.heap.size + 2 := by rw [hW]; simp
  have hG : w.grownBy W none := by
    rw [hW]
    have g1 := World.grownBy_alloc w (.cells #[.bool h0, .bool h1, .bool h2, .bool h3, .bool h4, .bool h5, .bool h6, .bool h7] 50) none
    have g2 := World.grownBy_alloc (w.alloc (.cells #[.bool h0, .bool h1, .bool h2, .bool h3, .bool h4, .bool h5, .bool h6, .bool h7] 50)) (.cells #[.int .i64 p0, .int .i64 p1, .int .i64 p2, .int .i64 p3, .int .i64 p4, .int .i64 p5, .int .i64 p6, .int .i64 p7] 53) none
    exact g1.trans g2
  have b0 : W.cell? ⟨w.heap.size, 0, none⟩ = some (.bool h0) := by rw [hW]; go_simp
  have b1 : W.cell? ⟨w.heap.size, 1, none⟩ = some (.bool h1) := by rw [hW]; go_simp
  have b2 : W.cell? ⟨w.heap.size, 2, none⟩ = some (.bool h2) := by rw [hW]; go_simp
  have b3 : W.cell? ⟨w.heap.size, 3, none⟩ = some (.bool h3) := by rw [hW]; go_simp
  have b4 : W.cell? ⟨w.heap.size, 4, none⟩ = some (.bool h4) := by rw [hW]; go_simp
  have b5 : W.cell? ⟨w.heap.size, 5, none⟩ = some (.bool h5) := by rw [hW]; go_simp
  have b6 : W.cell? ⟨w.heap.size, 6, none⟩ = some (.bool h6) := by rw [hW]; go_simp
  have b7 : W.cell? ⟨w.heap.size, 7, none⟩ = some (.bool h7) := by rw [hW]; go_simp
  have d0 : W.cell? ⟨w.heap.size + 1, 0, none⟩ = some (.int .i64 p0) := by rw [hW]; go_simp
  have d1 : W.cell? ⟨w.heap.size + 1, 1, none⟩ = some (.int .i64 p1) := by rw [hW]; go_simp
  have d2 : W.cell? ⟨w.heap.size + 1, 2, none⟩ = some (.int .i64 p2) := by rw [hW]; go_simp
  have d3 : W.cell? ⟨w.heap.size + 1, 3, none⟩ = some (.int .i64 p3) := by rw [hW]; go_simp
  have d4 : W.cell? ⟨w.heap.size + 1, 4, none⟩ = some (.int .i64 p4) := by rw [hW]; go_simp
  have d5 : W.cell? ⟨w.heap.size + 1, 5, none⟩ = some (.int .i64 p5) := by rw [hW]; go_simp
  have d6 : W.cell? ⟨w.heap.size + 1, 6, none⟩ = some (.int .i64 p6) := by rw [hW]; go_simp
  have d7 : W.cell? ⟨w.heap.size + 1, 7, none⟩ = some (.int .i64 p7) := by rw [hW]; go_simp
  have hoW : W.ownsRow B 5 1 (.slice va m vc) m (bytesV bs) := ho.kept hG (by cases va <;> simp [Value.ownBlock])
  have hlt : ∀ k, (Value.slice va m vc).ownBlock = some k → B ≤ k ∧ k < w.heap.size := fun k hk => ho.lt k hk
  have hn0 : some w.heap.size ≠ (Value.slice va m vc).ownBlock := by intro e; have := hlt _ e.symm; omega
  have hn1 : some (w.heap.size + 1) ≠ (Value.slice va m vc).ownBlock := by intro e; have := hlt _ e.symm; omega
  have hwW : WidsAt W := hwd.grown hG (by simp)
  have KC : Hid (∀ V : World, W.grownBy V (Value.slice va m vc).ownBlock → (V.cell? ⟨w.heap.size, 0, none⟩ = some (.bool h0) ∧ V.cell? ⟨w.heap.size, 1, none⟩ = some (.bool h1) ∧ V.cell? ⟨w.heap.size, 2, none⟩ = some (.bool h2) ∧ V.cell? ⟨w.heap.size, 3, none⟩ = some (.bool h3) ∧ V.cell? ⟨w.heap.size, 4, none⟩ = some (.bool h4) ∧ V.cell? ⟨w.heap.size, 5, none⟩ = some (.bool h5) ∧ V.cell? ⟨w.heap.size, 6, none⟩ = some (.bool h6) ∧ V.cell? ⟨w.heap.size, 7, none⟩ = some (.bool h7)) ∧ (V.cell? ⟨w.heap.size + 1, 0, none⟩ = some (.int .i64 p0) ∧ V.cell? ⟨w.heap.size + 1, 1, none⟩ = some (.int .i64 p1) ∧ V.cell? ⟨w.heap.size + 1, 2, none⟩ = some (.int .i64 p2) ∧ V.cell? ⟨w.heap.size + 1, 3, none⟩ = some (.int .i64 p3) ∧ V.cell? ⟨w.heap.size + 1, 4, none⟩ = some (.int .i64 p4) ∧ V.cell? ⟨w.heap.size + 1, 5, none⟩ = some (.int .i64 p5) ∧ V.cell? ⟨w.heap.size + 1, 6, none⟩ = some (.int .i64 p6) ∧ V.cell? ⟨w.heap.size + 1, 7, none⟩ = some (.int .i64 p7))) := by
    intro V hV
    exact ⟨⟨hV.cell b0 hn0, hV.cell b1 hn0, hV.cell b2 hn0, hV.cell b3 hn0, hV.cell b4 hn0, hV.cell b5 hn0, hV.cell b6 hn0, hV.cell b7 hn0⟩, hV.cell d0 hn1, hV.cell d1 hn1, hV.cell d2 hn1, hV.cell d3 hn1, hV.cell d4 hn1, hV.cell d5 hn1, hV.cell d6 hn1, hV.cell d7 hn1⟩
  clear b0 d0 b1 d1 b2 d2 b3 d3 b4 d4 b5 d5 b6 d6 b7 d7
  obtain ⟨hs, ehs⟩ : ∃ hs, hs = [h0, h1, h2, h3, h4, h5, h6, h7] := ⟨_, rfl⟩
  obtain ⟨ps, eps⟩ : ∃ ps, ps = [p0, p1, p2, p3, p4, p5, p6, p7] := ⟨_, rfl⟩
  rw [← ehs, ← eps]
  have EH : Hid (hs = [h0, h1, h2, h3, h4, h5, h6, h7]) := ehs
  have EP : Hid (ps = [p0, p1, p2, p3, p4, p5, p6, p7]) := eps
  clear ehs eps
  obtain ⟨t0, t1, t2, t3, t4, t5, t6, t7⟩ := hwW
  go_enter Tryd.func16, Tryd.ntmps16
  go_upto_region 1 with (fail)
  rw [← hW]
  clear hW
  go_wp2
  go_loopw [0, 10] (fun s0 s10 wr => ∃ (k : Nat) (a1 : Option Addr) (c1 : Nat) (cs : List Int), k ≤ 8 ∧ s10 = .int .i64 k ∧ s0 = .slice a1 cs.length c1 ∧ wr.ownsRow B 5 1 (.slice a1 cs.length c1) cs.length (bytesV cs) ∧ Hid (cs ++ encParts (hs.drop k) (widL.drop k) (ps.drop k) = bs ++ encParts hs widL ps) ∧ cs.length ≤ m + 4 * k ∧ W.grownBy wr (Value.slice va m vc).ownBlock ∧ Beyond W (.slice va m vc) (.slice a1 cs.length c1)) (fun _ i _ => 8 - (intOf i).toNat)
  case atStart => exact ⟨0, va, vc, bs, by omega, rfl, by rw [hmb], by rw [← hmb]; exact hoW, rfl, by omega, grown_refl _ _, fun j hj => .inr (by rw [hmb]; exact hj)⟩
  case round =>
    obtain ⟨k, a1, c1, cs, hk, rfl, rfl, hown, hat, hle, hgr, hby⟩ := hrel
    obtain ⟨⟨b0, b1, b2, b3, b4, b5, b6, b7⟩, d0, d1, d2, d3, d4, d5, d6, d7⟩ := KC.out _ hgr
    rcases (by omega : k = 0 ∨ k = 1 ∨ k = 2 ∨ k = 3 ∨ k = 4 ∨ k = 5 ∨ k = 6 ∨ k = 7 ∨ k = 8) with rfl | rfl | rfl | rfl | rfl | rfl | rfl | rfl | rfl
    · have hx := idxA0 1 1 4 3 3 1 1 1
      cases hb : h0 with
      | true =>
        have hn : Hid ((cs ++ be p0 1) ++ encParts (hs.drop 1) (widL.drop 1) (ps.drop 1) = bs ++ encParts hs widL ps) := by show _ = _; rw [← hat.out, EH.out, EP.out]; simp [encParts, widL, hb]
        rw [hb] at b0
        clear hat
        go_wp2_with (go_at_call 35; refine (appendNumber_any B (.slice a1 cs.length c1) cs.length cs p0 1 _ (by omega) (by omega) (by have := hgr.size; omega) hown).mono ?_; rintro e w2 ⟨v2, rfl, hown2, hgrow2, hby2⟩; obtain ⟨a2, c2, rfl⟩ := own_slice hown2)
        have hgr' := grown_then hgr hgrow2 hby
        have hby' : Beyond W (.slice va m vc) (.slice a2 (cs.length + 1) c2) := by
          intro j hj
          rcases hby2 j hj with h | h
          · left; have := hgr.size; omega
          · exact hby j h
        have hl2 : (cs ++ be p0 1).length = cs.length + 1 := by simp [be_len]
        go_roundw
        case rel => exact ⟨1, a2, c2, cs ++ be p0 1, by omega, by go_num, by rw [hl2], by rw [hl2]; exact hown2, hn, by rw [hl2]; omega, hgr', by rw [hl2]; exact hby'⟩
        case measure => simp [intOf]
      | false =>
        have hn : Hid (cs ++ encParts (hs.drop 1) (widL.drop 1) (ps.drop 1) = bs ++ encParts hs widL ps) := by show _ = _; rw [← hat.out, EH.out, EP.out]; simp [encParts, widL, hb]
        rw [hb] at b0
        clear hat
        go_wp2
        go_roundw
        case rel => exact ⟨1, a1, c1, cs, by omega, by go_num, rfl, hown, hn, by omega, hgr, hby⟩
        case measure => simp [intOf]
    · have hx := idxA1 1 1 4 3 3 1 1 1
      cases hb : h1 with
      | true =>
        have hn : Hid ((cs ++ be p1 1) ++ encParts (hs.drop 2) (widL.drop 2) (ps.drop 2) = bs ++ encParts hs widL ps) := by show _ = _; rw [← hat.out, EH.out, EP.out]; simp [encParts, widL, hb]
        rw [hb] at b1
        clear hat
        go_wp2_with (go_at_call 35; refine (appendNumber_any B (.slice a1 cs.length c1) cs.length cs p1 1 _ (by omega) (by omega) (by have := hgr.size; omega) hown).mono ?_; rintro e w2 ⟨v2, rfl, hown2, hgrow2, hby2⟩; obtain ⟨a2, c2, rfl⟩ := own_slice hown2)
        have hgr' := grown_then hgr hgrow2 hby
        have hby' : Beyond W (.slice va m vc) (.slice a2 (cs.length + 1) c2) := by
          intro j hj
          rcases hby2 j hj with h | h
          · left; have := hgr.size; omega
          · exact hby j h
        have hl2 : (cs ++ be p1 1).length = cs.length + 1 := by simp [be_len]
        go_roundw
        case rel => exact ⟨2, a2, c2, cs ++ be p1 1, by omega, by go_num, by rw [hl2], by rw [hl2]; exact hown2, hn, by rw [hl2]; omega, hgr', by rw [hl2]; exact hby'⟩
        case measure => simp [intOf]
      | false =>
        have hn : Hid (cs ++ encParts (hs.drop 2) (widL.drop 2) (ps.drop 2) = bs ++ encParts hs widL ps) := by show _ = _; rw [← hat.out, EH.out, EP.out]; simp [encParts, widL, hb]
        rw [hb] at b1
        clear hat
        go_wp2
        go_roundw
        case rel => exact ⟨2, a1, c1, cs, by omega, by go_num, rfl, hown, hn, by omega, hgr, hby⟩
        case measure => simp [intOf]
    · have hx := idxA2 1 1 4 3 3 1 1 1
      cases hb : h2 with
      | true =>
        have hn : Hid ((cs ++ be p2 4) ++ encParts (hs.drop 3) (widL.drop 3) (ps.drop 3) = bs ++ encParts hs widL ps) := by show _ = _; rw [← hat.out, EH.out, EP.out]; simp [encParts, widL, hb]
        rw [hb] at b2
        clear hat
        go_wp2_with (go_at_call 35; refine (appendNumber_any B (.slice a1 cs.length c1) cs.length cs p2 4 _ (by omega) (by omega) (by have := hgr.size; omega) hown).mono ?_; rintro e w2 ⟨v2, rfl, hown2, hgrow2, hby2⟩; obtain ⟨a2, c2, rfl⟩ := own_slice hown2)
        have hgr' := grown_then hgr hgrow2 hby
        have hby' : Beyond W (.slice va m vc) (.slice a2 (cs.length + 4) c2) := by
          intro j hj
          rcases hby2 j hj with h | h
          · left; have := hgr.size; omega
          · exact hby j h
        have hl2 : (cs ++ be p2 4).length = cs.length + 4 := by simp [be_len]
        go_roundw
        case rel => exact ⟨3, a2, c2, cs ++ be p2 4, by omega, by go_num, by rw [hl2], by rw [hl2]; exact hown2, hn, by rw [hl2]; omega, hgr', by rw [hl2]; exact hby'⟩
        case measure => simp [intOf]
      | false =>
        have hn : Hid (cs ++ encParts (hs.drop 3) (widL.drop 3) (ps.drop 3) = bs ++ encParts hs widL ps) := by show _ = _; rw [← hat.out, EH.out, EP.out]; simp [encParts, widL, hb]
        rw [hb] at b2
        clear hat
        go_wp2
        go_roundw
        case rel => exact ⟨3, a1, c1, cs, by omega, by go_num, rfl, hown, hn, by omega, hgr, hby⟩
        case measure => simp [intOf]
    · have hx := idxA3 1 1 4 3 3 1 1 1
      cases hb : h3 with
      | true =>
        have hn : Hid ((cs ++ be p3 3) ++ encParts (hs.drop 4) (widL.drop 4) (ps.drop 4) = bs ++ encParts hs widL ps) := by show _ = _; rw [← hat.out, EH.out, EP.out]; simp [encParts, widL, hb]
        rw [hb] at b3
        clear hat
        go_wp2_with (go_at_call 35; refine (appendNumber_any B (.slice a1 cs.length c1) cs.length cs p3 3 _ (by omega) (by omega) (by have := hgr.size; omega) hown).mono ?_; rintro e w2 ⟨v2, rfl, hown2, hgrow2, hby2⟩; obtain ⟨a2, c2, rfl⟩ := own_slice hown2)
        have hgr' := grown_then hgr hgrow2 hby
        have hby' : Beyond W (.slice va m vc) (.slice a2 (cs.length + 3) c2) := by
          intro j hj
          rcases hby2 j hj with h | h
          · left; have := hgr.size; omega
          · exact hby j h
        have hl2 : (cs ++ be p3 3).length = cs.length + 3 := by simp [be_len]
        go_roundw
        case rel => exact ⟨4, a2, c2, cs ++ be p3 3, by omega, by go_num, by rw [hl2], by rw [hl2]; exact hown2, hn, by rw [hl2]; omega, hgr', by rw [hl2]; exact hby'⟩
        case measure => simp [intOf]
      | false =>
        have hn : Hid (cs ++ encParts (hs.drop 4) (widL.drop 4) (ps.drop 4) = bs ++ encParts hs widL ps) := by show _ = _; rw [← hat.out, EH.out, EP.out]; simp [encParts, widL, hb]
        rw [hb] at b3
        clear hat
        go_wp2
        go_roundw
        case rel => exact ⟨4, a1, c1, cs, by omega, by go_num, rfl, hown, hn, by omega, hgr, hby⟩
        case measure => simp [intOf]
    · have hx := idxA4 1 1 4 3 3 1 1 1
      cases hb : h4 with
      | true =>
        have hn : Hid ((cs ++ be p4 3) ++ encParts (hs.drop 5) (widL.drop 5) (ps.drop 5) = bs ++ encParts hs widL ps) := by show _ = _; rw [← hat.out, EH.out, EP.out]; simp [encParts, widL, hb]
        rw [hb] at b4
        clear hat
        go_wp2_with (go_at_call 35; refine (appendNumber_any B (.slice a1 cs.length c1) cs.length cs p4 3 _ (by omega) (by omega) (by have := hgr.size; omega) hown).mono ?_; rintro e w2 ⟨v2, rfl, hown2, hgrow2, hby2⟩; obtain ⟨a2, c2, rfl⟩ := own_slice hown2)
        have hgr' := grown_then hgr hgrow2 hby
        have hby' : Beyond W (.slice va m vc) (.slice a2 (cs.length + 3) c2) := by
          intro j hj
          rcases hby2 j hj with h | h
          · left; have := hgr.size; omega
          · exact hby j h
        have hl2 : (cs ++ be p4 3).length = cs.length + 3 := by simp [be_len]
        go_roundw
        case rel => exact ⟨5, a2, c2, cs ++ be p4 3, by omega, by go_num, by rw [hl2], by rw [hl2]; exact hown2, hn, by rw [hl2]; omega, hgr', by rw [hl2]; exact hby'⟩
        case measure => simp [intOf]
      | false =>
        have hn : Hid (cs ++ encParts (hs.drop 5) (widL.drop 5) (ps.drop 5) = bs ++ encParts hs widL ps) := by show _ = _; rw [← hat.out, EH.out, EP.out]; simp [encParts, widL, hb]
        rw [hb] at b4
        clear hat
        go_wp2
        go_roundw
        case rel => exact ⟨5, a1, c1, cs, by omega, by go_num, rfl, hown, hn, by omega, hgr, hby⟩
        case measure => simp [intOf]
    · have hx := idxA5 1 1 4 3 3 1 1 1
      cases hb : h5 with
      | true =>
        have hn : Hid ((cs ++ be p5 1) ++ encParts (hs.drop 6) (widL.drop 6) (ps.drop 6) = bs ++ encParts hs widL ps) := by show _ = _; rw [← hat.out, EH.out, EP.out]; simp [encParts, widL, hb]
        rw [hb] at b5
        clear hat
        go_wp2_with (go_at_call 35; refine (appendNumber_any B (.slice a1 cs.length c1) cs.length cs p5 1 _ (by omega) (by omega) (by have := hgr.size; omega) hown).mono ?_; rintro e w2 ⟨v2, rfl, hown2, hgrow2, hby2⟩; obtain ⟨a2, c2, rfl⟩ := own_slice hown2)
        have hgr' := grown_then hgr hgrow2 hby
        have hby' : Beyond W (.slice va m vc) (.slice a2 (cs.length + 1) c2) := by
          intro j hj
          rcases hby2 j hj with h | h
          · left; have := hgr.size; omega
          · exact hby j h
        have hl2 : (cs ++ be p5 1).length = cs.length + 1 := by simp [be_len]
        go_roundw
        case rel => exact ⟨6, a2, c2, cs ++ be p5 1, by omega, by go_num, by rw [hl2], by rw [hl2]; exact hown2, hn, by rw [hl2]; omega, hgr', by rw [hl2]; exact hby'⟩
        case measure => simp [intOf]
      | false =>
        have hn : Hid (cs ++ encParts (hs.drop 6) (widL.drop 6) (ps.drop 6) = bs ++ encParts hs widL ps) := by show _ = _; rw [← hat.out, EH.out, EP.out]; simp [encParts, widL, hb]
        rw [hb] at b5
        clear hat
        go_wp2
        go_roundw
        case rel => exact ⟨6, a1, c1, cs, by omega, by go_num, rfl, hown, hn, by omega, hgr, hby⟩
        case measure => simp [intOf]
    · have hx := idxA6 1 1 4 3 3 1 1 1
      cases hb : h6 with
      | true =>
        have hn : Hid ((cs ++ be p6 1) ++ encParts (hs.drop 7) (widL.drop 7) (ps.drop 7) = bs ++ encParts hs widL ps) := by show _ = _; rw [← hat.out, EH.out, EP.out]; simp [encParts, widL, hb]
        rw [hb] at b6
        clear hat
        go_wp2_with (go_at_call 35; refine (appendNumber_any B (.slice a1 cs.length c1) cs.length cs p6 1 _ (by omega) (by omega) (by have := hgr.size; omega) hown).mono ?_; rintro e w2 ⟨v2, rfl, hown2, hgrow2, hby2⟩; obtain ⟨a2, c2, rfl⟩ := own_slice hown2)
        have hgr' := grown_then hgr hgrow2 hby
        have hby' : Beyond W (.slice va m vc) (.slice a2 (cs.length + 1) c2) := by
          intro j hj
          rcases hby2 j hj with h | h
          · left; have := hgr.size; omega
          · exact hby j h
        have hl2 : (cs ++ be p6 1).length = cs.length + 1 := by simp [be_len]
        go_roundw
        case rel => exact ⟨7, a2, c2, cs ++ be p6 1, by omega, by go_num, by rw [hl2], by rw [hl2]; exact hown2, hn, by rw [hl2]; omega, hgr', by rw [hl2]; exact hby'⟩
        case measure => simp [intOf]
      | false =>
        have hn : Hid (cs ++ encParts (hs.drop 7) (widL.drop 7) (ps.drop 7) = bs ++ encParts hs widL ps) := by show _ = _; rw [← hat.out, EH.out, EP.out]; simp [encParts, widL, hb]
        rw [hb] at b6
        clear hat
        go_wp2
        go_roundw
        case rel => exact ⟨7, a1, c1, cs, by omega, by go_num, rfl, hown, hn, by omega, hgr, hby⟩
        case measure => simp [intOf]
    · have hx := idxA7 1 1 4 3 3 1 1 1
      cases hb : h7 with
      | true =>
        have hn : Hid ((cs ++ be p7 1) ++ encParts (hs.drop 8) (widL.drop 8) (ps.drop 8) = bs ++ encParts hs widL ps) := by show _ = _; rw [← hat.out, EH.out, EP.out]; simp [encParts, widL, hb]
        rw [hb] at b7
        clear hat
        go_wp2_with (go_at_call 35; refine (appendNumber_any B (.slice a1 cs.length c1) cs.length cs p7 1 _ (by omega) (by omega) (by have := hgr.size; omega) hown).mono ?_; rintro e w2 ⟨v2, rfl, hown2, hgrow2, hby2⟩; obtain ⟨a2, c2, rfl⟩ := own_slice hown2)
        have hgr' := grown_then hgr hgrow2 hby
        have hby' : Beyond W (.slice va m vc) (.slice a2 (cs.length + 1) c2) := by
          intro j hj
          rcases hby2 j hj with h | h
          · left; have := hgr.size; omega
          · exact hby j h
        have hl2 : (cs ++ be p7 1).length = cs.length + 1 := by simp [be_len]
        go_roundw
        case rel => exact ⟨8, a2, c2, cs ++ be p7 1, by omega, by go_num, by rw [hl2], by rw [hl2]; exact hown2, hn, by rw [hl2]; omega, hgr', by rw [hl2]; exact hby'⟩
        case measure => simp [intOf]
      | false =>
        have hn : Hid (cs ++ encParts (hs.drop 8) (widL.drop 8) (ps.drop 8) = bs ++ encParts hs widL ps) := by show _ = _; rw [← hat.out, EH.out, EP.out]; simp [encParts, widL, hb]
        rw [hb] at b7
        clear hat
        go_wp2
        go_roundw
        case rel => exact ⟨8, a1, c1, cs, by omega, by go_num, rfl, hown, hn, by omega, hgr, hby⟩
        case measure => simp [intOf]
    · have hfin : cs = bs ++ encParts hs widL ps := by have := hat.out; rw [EH.out, EP.out] at this ⊢; simpa [widL, encParts] using this
      go_wp2
      go_ret
      refine ⟨a1, c1, cs, rfl, hown, hfin, ?_, ?_⟩
      · exact ⟨hgr.os.trans hG.os, hgr.tape.trans hG.tape, hgr.output.trans hG.output, Nat.le_trans hG.size hgr.size, fun q hq hne => (hgr.block q (by omega) hne).trans (hG.block q hq (by simp))⟩
      · intro j hj
        rcases hby j hj with h | h
        · left; omega
        · exact .inr h
end Go.Proofs.YtilhkonanncfiaaDoor