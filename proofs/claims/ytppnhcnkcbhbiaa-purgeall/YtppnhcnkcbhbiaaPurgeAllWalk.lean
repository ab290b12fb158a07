/- The walk of the law PurgeAll: at any raw numbers it returns true and leaves what was in memory. -/
import Derived.Test.YtppnhcnkcbhbiaaPurgeMoreWalk
import Derived.LoopTactic
namespace Go.Proofs.Ytppnhcnkcbhbiaa
open Go.ChangeShapes Go.WideShapes Go.ChangeAt Go.RowKit
set_option linter.unusedVariables false

theorem labs_all : cfgLabs [0, 3, 8, 11] = [(0, 0), (0, 1), (2, 2), (2, 3)] := by decide

theorem all_abv : ∀ x : Fin 4, abv (labAtI [(0, 0), (0, 1), (2, 2), (2, 3)] 3).1 (labAtI [(0, 0), (0, 1), (2, 2), (2, 3)] 3).2 (labAtI [(0, 0), (0, 1), (2, 2), (2, 3)] (x.val : Int)).1 (labAtI [(0, 0), (0, 1), (2, 2), (2, 3)] (x.val : Int)).2 = true := by decide

theorem all_hid (q : Int) : hid [(0, 0), (0, 1), (2, 2), (2, 3)] 3 q = false := by
  by_cases hq : 0 ≤ q ∧ q ≤ 3
  · obtain ⟨x, rfl⟩ := four_k q hq
    unfold hid
    rw [all_abv x]
    simp
  · have : plc q 4 = false := by simp [plc]; omega
    simp [hid, this]

set_option maxHeartbeats 4000000 in
theorem purgeAll_walk (s : Int) (aa : Option Addr) (alen acap : Nat) (rs : List RV) (p : Int) (w : World) (hs : (Lit.int .i64 s).wf = true) (hr : IsRaws w aa alen acap rs) (hp : (Lit.int .i64 p).wf = true) :
    Calls Try.prog 5 #[.int .i64 s, .slice aa alen acap, .int .i64 p] w fun e w' => e = .returned (.bool true) ∧ Below w.heap.size w w' := by
  have hs' := i64_bd hs
  have hp' := i64_bd hp
  have bs := cfgS_bd s
  have bp := cfgP_bd p
  have hg := good_labs [0, 3, 8, 11]
  have hCfg := fun a cap w' h' => config_any s p a 4 cap [0, 3, 8, 11] w' hs' hp' h'
  obtain ⟨S, eS⟩ : ∃ S, S = cfgS s := ⟨_, rfl⟩
  obtain ⟨P, eP⟩ : ∃ P, P = cfgP p := ⟨_, rfl⟩
  rw [← eS] at bs
  rw [← eP] at bp
  rw [← eS, ← eP] at hCfg
  clear eS eP
  rw [labs_all] at hg hCfg
  obtain ⟨L, eL⟩ : ∃ L : List (Int × Int), L = [(0, 0), (0, 1), (2, 2), (2, 3)] := ⟨_, rfl⟩
  have hL4 : L.length = 4 := by rw [eL]; rfl
  have hab : Hid (∀ x : Int, 0 ≤ x ∧ x ≤ 3 → abv (labAtI L 3).1 (labAtI L 3).2 (labAtI L x).1 (labAtI L x).2 = true) := by
    intro x hx
    obtain ⟨x, rfl⟩ := four_k x hx
    rw [eL]
    exact all_abv x
  have hhid : Hid (∀ q, hid L 3 q = false) := by
    intro q
    rw [eL]
    exact all_hid q
  rw [← eL] at hg hCfg
  clear eL
  obtain ⟨hgood, hn1⟩ := hg
  have hF0 : cfgFault S L P = 0 := cfgFault_good hgood hn1 (by omega) (by omega)
  rw [hL4] at hCfg
  have HL : Hid (L.length = 4) := hL4
  have pl3 : plc 3 L.length = true := by rw [hL4]; decide
  clear hL4 hn1
  obtain ⟨V, hV⟩ : ∃ V : World, V = w.alloc (.cells #[.int .i64 0, .int .i64 3, .int .i64 8, .int .i64 11] 3) := ⟨_, rfl⟩
  have hI : IsInts V (some ⟨w.heap.size, 0, none⟩) 4 4 [0, 3, 8, 11] := by
    refine ⟨rfl, Nat.le_refl _, by decide, fun i => ?_, fun _ => ⟨w.heap.size, 0, rfl, by rw [hV]; simp, fun i hi => ?_⟩⟩
    · have : i = 0 ∨ i = 1 ∨ i = 2 ∨ i = 3 ∨ 4 ≤ i := by omega
      rcases this with rfl | rfl | rfl | rfl | h
      · decide
      · decide
      · decide
      · decide
      · have e : ([0, 3, 8, 11] : List Int).getD i 0 = 0 := by simp [List.getD, h]
        rw [e]
        decide
    · have : i = 0 ∨ i = 1 ∨ i = 2 ∨ i = 3 := by omega
      rw [hV]
      rcases this with rfl | rfl | rfl | rfl <;> (go_simp; try rfl)
  have hVb : Below w.heap.size w V := by rw [hV]; exact (Below.refl _ _).alloc (Nat.le_refl _) _
  have hCf := hCfg _ _ _ hI
  rw [hV] at hCf
  go_enter Try.func5, Try.ntmps5
  go_upto_region 2 with (go_at_call 8; refine hCf.mono ?_; rintro e w1 ⟨g, cp, rfl, hg1, hg2, hg3, hg4, hb1⟩)
  rw [← hV] at hb1
  clear hV hCf hI hCfg
  obtain ⟨W, hW⟩ : ∃ W : World, W = w1.alloc (.cells #[.int .i64 S, .slice (some ⟨g, 0, none⟩) 4 cp, .int .i64 P] 25) := ⟨_, rfl⟩
  have zW : w1.heap.size < W.heap.size := by rw [hW]; simp
  have c0 : W.cell? ⟨w1.heap.size, 0, none⟩ = some (.int .i64 S) := by rw [hW]; go_simp
  have c1 : W.cell? ⟨w1.heap.size, 1, none⟩ = some (.slice (some ⟨g, 0, none⟩) 4 cp) := by rw [hW]; go_simp
  have c2 : W.cell? ⟨w1.heap.size, 2, none⟩ = some (.int .i64 P) := by rw [hW]; go_simp
  have hBW : Below w1.heap.size w1 W := by rw [hW]; exact (Below.refl _ _).alloc (Nat.le_refl _) _
  rw [← hW]
  clear hW
  have hLW : IsLabs W (some ⟨g, 0, none⟩) 4 cp L := ⟨HL.out, by omega, hg3, fun _ => ⟨g, 0, rfl, hg4.below hBW⟩⟩
  have hB0 : Below w.heap.size w W := (hVb.trans (hb1.mono hVb.size)).trans (hBW.mono (Nat.le_trans hVb.size hb1.size))
  have hrW := hr.below hB0
  clear hg4 hBW hg1 hg2 hg3
  have KC : Hid (∀ (V : World), Below W.heap.size W V → V.cell? ⟨w1.heap.size, 0, none⟩ = some (.int .i64 S) ∧ V.cell? ⟨w1.heap.size, 1, none⟩ = some (.slice (some ⟨g, 0, none⟩) 4 cp) ∧ V.cell? ⟨w1.heap.size, 2, none⟩ = some (.int .i64 P)) := fun V hV =>
    ⟨(hV.cell (p := ⟨w1.heap.size, 0, none⟩) zW).trans c0, (hV.cell (p := ⟨w1.heap.size, 1, none⟩) zW).trans c1, (hV.cell (p := ⟨w1.heap.size, 2, none⟩) zW).trans c2⟩
  go_upto_region 3 with (go_at_call 12; refine (acts_any S P _ 4 cp aa alen acap rs _ ⟨by omega, by omega⟩ ⟨by decide, by decide⟩ hrW).mono ?_; rintro e w2 ⟨ao, ac, ys, rfl, hys, hfin, h32, hb2⟩)
  have em : Hid (ys.length = ys.length) := rfl
  obtain ⟨m0, em0⟩ : ∃ m0, m0 = ys.length := ⟨_, rfl⟩
  have EM : Hid (m0 = ys.length) := em0
  rw [← em0] at hys h32 ⊢
  clear em0 em
  have hsm := acts_small hys (fun y hy => (hfin y hy).2.2)
  obtain ⟨d0, d1, d2⟩ := KC.out _ hb2
  go_upto_region 4 with (go_at_call 13; refine (purge_good S P _ 4 cp L 3 _ _ _ ys _ (hLW.below hb2) hys hF0 pl3 h32 hsm).mono ?_; rintro e w3 ⟨ao3, m3, cp3, ys3, rfl, hA3, hm3, hp3, h323, hs3, hb3⟩)
  have hb3' : Below W.heap.size W w3 := hb2.trans (hb3.mono hb2.size)
  have hy3 := hys.below hb3
  have heq : Hid (ys.map AV.bare = ys3.map AV.bare) := by
    show ys.map AV.bare = ys3.map AV.bare
    rw [hp3.out, purge_none ys hhid.out]
  have hle : Hid (m0 = m3) := by
    show m0 = m3
    have := congrArg List.length heq.out
    simp at this
    have h1 := hm3.out
    have h2 := EM.out
    omega
  clear d0 d1 d2
  go_wp2
  go_loopw [11] (fun i wr => ∃ k : Nat, k ≤ 3 ∧ i = .int .i64 k ∧ Below w3.heap.size w3 wr) (fun i _ => 3 - (intOf i).toNat)
  case atStart => exact ⟨0, by omega, rfl, Below.refl _ _⟩
  case round =>
    obtain ⟨k, hk, rfl, hb⟩ := hrel
    have hbr : Below W.heap.size W wr := hb3'.trans (hb.mono hb3'.size)
    obtain ⟨d0, d1, d2⟩ := KC.out _ hbr
    by_cases hlt : k < 3
    · have hlt' : (k : Int) < 3 := by omega
      have hSk := seen_any S P _ 4 cp L 3 (k : Int) _ (hLW.below hbr) hF0 pl3 (by rw [HL.out]; simp [plc]; omega)
      rw [hab.out (k : Int) (by omega)] at hSk
      go_wp2_with (go_at_call 14; refine hSk.mono ?_; rintro e w4 ⟨rfl, hb4⟩)
      go_roundw
      case rel => exact ⟨k + 1, by omega, by go_num, hb.trans (hb4.mono hb.size)⟩
      case measure => simp [intOf]; omega
    · have hlt' : ¬ (k : Int) < 3 := by omega
      have hSm := sameActs_eq _ _ m0 m3 _ _ ys ys3 _ hle.out (hy3.below hb) (hA3.below hb) heq.out
      go_wp2_with (go_at_call 15; refine hSm.mono ?_; rintro e w4 ⟨rfl, hb4⟩)
      go_ret
      exact ⟨rfl, hB0.trans ((hbr.trans (hb4.mono hbr.size)).mono hB0.size)⟩
end Go.Proofs.Ytppnhcnkcbhbiaa
