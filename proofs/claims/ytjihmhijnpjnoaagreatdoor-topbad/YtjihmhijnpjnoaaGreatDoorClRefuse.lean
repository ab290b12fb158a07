/- cluster.refuse: a script as a whole; cluster.Run of a script that is refused. -/
import Derived.Test.YtjihmhijnpjnoaaGreatDoorLnCheck
namespace Go.Proofs.YtjihmhijnpjnoaaGreatDoor.Ln
open Go.ChangeShapes Go.WideShapes Go.ChangeAt Go.RowKit
set_option linter.unusedVariables false

/-- The place and the fault of the first act that may not be. -/
def firstBad (f : AV → Int) : Nat → List AV → Int × Int
  | _, [] => (0, 0)
  | i, y :: r => if f y = 0 then firstBad f (i + 1) r else ((i : Int), f y)
def scrErr (s : Int) (ls : List (Int × Int)) (p : Int) (n : Nat) (ys : List AV) : Int × Int :=
  if cfgFault s ls p ≠ 0 then (0, cfgFault s ls p) else if 3000 < n then (0, 1) else firstBad (actFault s ls p) 0 ys
theorem firstBad_at {f : AV → Int} {ys : List AV} {k : Nat} (hk : k < ys.length) (h : firstBad f 0 ys = firstBad f k (ys.drop k)) : firstBad f 0 ys = if f (ys.getD k default) = 0 then firstBad f (k + 1) (ys.drop (k + 1)) else ((k : Int), f (ys.getD k default)) := by
  rw [h, List.drop_eq_getElem_cons hk]
  have e : ys.getD k default = ys[k] := by simp [List.getD, hk]
  rw [e]
  rfl
/-- The tables of lines. -/
abbrev LTabs (w : World) : Prop := Tab w 0 7 aHas ∧ Tab w 1 4 cHas ∧ CTops w
theorem LTabs.below {w u : World} (h : LTabs w) (hb : Below w.heap.size w u) : LTabs u := ⟨h.1.below hb (h.1.lt (by decide) (by decide)), h.2.1.below hb (h.2.1.lt (by decide) (by decide)), Nms.below h.2.2 hb h.2.2.1⟩
set_option maxRecDepth 100000 in
set_option maxHeartbeats 4000000 in
theorem refuse_script (s p : Int) (a : Option Addr) (len cap : Nat) (ls : List (Int × Int)) (ao : Option Addr) (n cp : Nat) (ys : List AV) (w : World) (h : IsLabs w a len cap ls) (hn : n ≤ 1048576) (hy : n ≤ 3000 → IsActs w ao n cp ys) (hT : LTabs w) :
    Calls Tryz.prog 12 #[.agg #[.int .i64 s, .slice a len cap, .int .i64 p], .slice ao n cp] w fun e w' => e = .returned (.tuple #[.int .i64 (scrErr s ls p n ys).1, .int .i64 (scrErr s ls p n ys).2]) ∧ Below w.heap.size w w' := by
  obtain ⟨W, hW⟩ : ∃ W : World, W = w.alloc (.cells #[.int .i64 s, .slice a len cap, .int .i64 p] 26) := ⟨_, rfl⟩
  have hB : Below w.heap.size w W := by rw [hW]; exact (Below.refl _ _).alloc (Nat.le_refl _) _
  have zW : w.heap.size < W.heap.size := by rw [hW]; simp
  have d0 : W.cell? ⟨w.heap.size, 0, none⟩ = some (.int .i64 s) := by rw [hW]; go_simp
  have d1 : W.cell? ⟨w.heap.size, 1, none⟩ = some (.slice a len cap) := by rw [hW]; go_simp
  have d2 : W.cell? ⟨w.heap.size, 2, none⟩ = some (.int .i64 p) := by rw [hW]; go_simp
  have KC : Hid (∀ U : World, Below W.heap.size W U → (U.cell? ⟨w.heap.size, 0, none⟩ = some (.int .i64 s) ∧ U.cell? ⟨w.heap.size, 1, none⟩ = some (.slice a len cap) ∧ U.cell? ⟨w.heap.size, 2, none⟩ = some (.int .i64 p) ∧ w.heap.size < U.heap.size) ∧ IsLabs U a len cap ls ∧ LTabs U ∧ Below w.heap.size w U) := fun U hU => ⟨⟨(hU.cell (p := ⟨w.heap.size, 0, none⟩) zW).trans d0, (hU.cell (p := ⟨w.heap.size, 1, none⟩) zW).trans d1, (hU.cell (p := ⟨w.heap.size, 2, none⟩) zW).trans d2, Nat.lt_of_lt_of_le zW hU.size⟩, (h.below hB).below hU, (hT.below hB).below hU, hB.trans (hU.mono hB.size)⟩
  have HE : Hid (scrErr s ls p n ys = if cfgFault s ls p ≠ 0 then (0, cfgFault s ls p) else if 3000 < n then (0, 1) else firstBad (actFault s ls p) 0 ys) := rfl
  have hCk := check_any s p a len cap ls W (h.below hB)
  have HY : Hid (n ≤ 3000 → ∀ U, Below W.heap.size W U → IsActs U ao n cp ys) := fun h3 U hU => ((hy h3).below hB).below hU
  obtain ⟨E, eE⟩ : ∃ E, E = scrErr s ls p n ys := ⟨_, rfl⟩
  rw [← eE] at HE ⊢
  obtain ⟨F, eF⟩ : ∃ F, F = cfgFault s ls p := ⟨_, rfl⟩
  rw [← eF] at HE hCk
  clear eE eF hy
  go_enter Tryz.func12, Tryz.ntmps12
  go_upto_region 1 with (fail)
  rw [← hW]
  clear hW
  by_cases hF : F = 0
  · subst hF
    by_cases h3 : 3000 < n
    · have h3' : (3000 : Int) < (n : Int) := by omega
      have hE : Hid (E = (0, 1)) := by show _ = _; rw [HE.out, if_neg (by decide), if_pos h3]
      go_wp2_with (go_at_call 17; refine hCk.mono ?_; rintro e w1 ⟨rfl, hb1⟩)
      exact bodyPost_ret (v := .tuple #[.int .i64 (0), .int .i64 (1)]) (by simp [results, Tryz.results12, go_sem]) rfl ⟨by rw [hE.out], (KC.out w1 hb1).2.2.2⟩
    · have h3' : (n : Int) ≤ 3000 := by omega
      have hE : Hid (E = firstBad (actFault s ls p) 0 ys) := by show _ = _; rw [HE.out, if_neg (by decide), if_neg h3]
      clear HE
      have HY2 := HY.out (by omega)
      have HY3 : Hid (∀ U, Below W.heap.size W U → IsActs U ao n cp ys) := HY2
      have hlen : ys.length = n := (HY2 W (Below.refl _ _)).1
      have hcap : n ≤ cp := (HY2 W (Below.refl _ _)).2.1
      have hcp : cp ≤ maxLen := (HY2 W (Below.refl _ _)).2.2.1
      unfold maxLen at hcp
      have HLen : Hid (ys.length = n) := hlen
      clear HY HY2 hlen
      go_upto_region 7 with (go_at_call 17; refine hCk.mono ?_; rintro e w1 ⟨rfl, hb1⟩)
      clear d0 d1 d2 hCk
      go_loopw [7, 8, 9, 20] (fun _ _ _ s20 wr => ∃ k : Nat, s20 = .int .i64 (k : Int) ∧ k ≤ n ∧ Hid (firstBad (actFault s ls p) 0 ys = firstBad (actFault s ls p) k (ys.drop k)) ∧ Hid (Below W.heap.size W wr)) (fun _ _ _ s20 _ => n - (intOf s20).toNat)
      case atStart => exact ⟨0, rfl, Nat.zero_le _, rfl, hb1⟩
      case round =>
        obtain ⟨k, rfl, hk, hf, hbk⟩ := hrel
        by_cases hlt : k < n
        · have hlt' : (k : Int) < (n : Int) := by omega
          have hAr := HY3.out wr hbk.out
          obtain ⟨b, off, rfl, zb, hat⟩ := hAr.2.2.2 (by omega)
          obtain ⟨hcells, hkeep⟩ := hat k (by rw [HLen.out]; exact hlt)
          have hkc : k < cp := by omega
          have HF2 : Hid (firstBad (actFault s ls p) 0 ys = if actFault s ls p (ys.getD k default) = 0 then firstBad (actFault s ls p) (k + 1) (ys.drop (k + 1)) else ((k : Int), actFault s ls p (ys.getD k default))) := firstBad_at (by rw [HLen.out]; exact hlt) hf.out
          obtain ⟨v, ev⟩ : ∃ v, v = ys.getD k default := ⟨_, rfl⟩
          rw [← ev] at hcells hkeep HF2
          clear ev hat hAr hf
          have hCA := fun U (h1 : IsLabs U a len cap ls) (h2 : IsInts U v.ka v.kl v.kc v.keep) (h3 : LTabs U) => check_act s p a len cap ls v U h1 h2 h3.1 h3.2.1 h3.2.2
          obtain ⟨G, eG⟩ : ∃ G, G = actFault s ls p v := ⟨_, rfl⟩
          rw [← eG] at HF2 hCA
          clear eG
          obtain ⟨kind, site, to1, label, pick, ka, kl, kc, c0, c1, c2, c3, c4, line, keep⟩ := v
          have a0 := hcells 0 (by decide)
          have a1 := hcells 1 (by decide)
          have a2 := hcells 2 (by decide)
          have a3 := hcells 3 (by decide)
          have a4 := hcells 4 (by decide)
          have a5 := hcells 5 (by decide)
          have a6 := hcells 6 (by decide)
          have a7 := hcells 7 (by decide)
          have a8 := hcells 8 (by decide)
          have a9 := hcells 9 (by decide)
          have a10 := hcells 10 (by decide)
          have a11 := hcells 11 (by decide)
          simp only [AV.cells, List.getElem?_cons_zero, List.getElem?_cons_succ, Nat.add_zero] at a0 a1 a2 a3 a4 a5 a6 a7 a8 a9 a10 a11
          simp only [AV.cells] at hCA
          clear hcells
          obtain ⟨U, hU⟩ : ∃ U : World, U = wr.alloc (.cells #[.int .i64 kind, .int .i64 site, .int .i64 to1, .int .i64 label, .int .i64 pick, .slice ka kl kc, .int .i64 c0, .int .i64 c1, .int .i64 c2, .int .i64 c3, .int .i64 c4, .string line] 34) := ⟨_, rfl⟩
          have bU : Below wr.heap.size wr U := by rw [hU]; exact (Below.refl _ _).alloc (Nat.le_refl _) _
          have e0 : U.cell? ⟨wr.heap.size, 0, none⟩ = some (.int .i64 kind) := by rw [hU]; go_simp
          have e1 : U.cell? ⟨wr.heap.size, 1, none⟩ = some (.int .i64 site) := by rw [hU]; go_simp
          have e2 : U.cell? ⟨wr.heap.size, 2, none⟩ = some (.int .i64 to1) := by rw [hU]; go_simp
          have e3 : U.cell? ⟨wr.heap.size, 3, none⟩ = some (.int .i64 label) := by rw [hU]; go_simp
          have e4 : U.cell? ⟨wr.heap.size, 4, none⟩ = some (.int .i64 pick) := by rw [hU]; go_simp
          have e5 : U.cell? ⟨wr.heap.size, 5, none⟩ = some (.slice ka kl kc) := by rw [hU]; go_simp
          have e6 : U.cell? ⟨wr.heap.size, 6, none⟩ = some (.int .i64 c0) := by rw [hU]; go_simp
          have e7 : U.cell? ⟨wr.heap.size, 7, none⟩ = some (.int .i64 c1) := by rw [hU]; go_simp
          have e8 : U.cell? ⟨wr.heap.size, 8, none⟩ = some (.int .i64 c2) := by rw [hU]; go_simp
          have e9 : U.cell? ⟨wr.heap.size, 9, none⟩ = some (.int .i64 c3) := by rw [hU]; go_simp
          have e10 : U.cell? ⟨wr.heap.size, 10, none⟩ = some (.int .i64 c4) := by rw [hU]; go_simp
          have e11 : U.cell? ⟨wr.heap.size, 11, none⟩ = some (.string line) := by rw [hU]; go_simp
          have zl : wr.heap.size < U.heap.size := by rw [hU]; simp
          have hbU : Below W.heap.size W U := hbk.out.trans (bU.mono hbk.out.size)
          go_upto_region 9 with (fail)
          rw [← hU]
          clear hU a0 a1 a2 a3 a4 a5 a6 a7 a8 a9 a10 a11
          obtain ⟨⟨x0, x1, x2, zx⟩, hlU, hTU, -⟩ := KC.out U hbU
          have HCA : Hid (Calls Tryz.prog 18 #[.agg #[.int .i64 s, .slice a len cap, .int .i64 p], .agg #[.int .i64 kind, .int .i64 site, .int .i64 to1, .int .i64 label, .int .i64 pick, .slice ka kl kc, .int .i64 c0, .int .i64 c1, .int .i64 c2, .int .i64 c3, .int .i64 c4, .string line]] U fun e w' => e = .returned (.int .i64 G) ∧ Below U.heap.size U w') := hCA U hlU (hkeep.below bU) hTU
          clear hCA hlU hTU hkeep
          by_cases hG : G = 0
          · subst hG
            have HF3 : Hid (firstBad (actFault s ls p) 0 ys = firstBad (actFault s ls p) (k + 1) (ys.drop (k + 1))) := by show _ = _; rw [HF2.out, if_pos rfl]
            clear HF2
            go_wp2_with (go_at_call 18; refine HCA.out.mono ?_; rintro e z ⟨rfl, hz⟩)
            have HbZ : Hid (Below W.heap.size W z) := hbU.trans (hz.mono hbU.size)
            go_roundw
            case rel => exact ⟨k + 1, by go_num, by omega, HF3, HbZ⟩
            case measure => simp [intOf]; omega
          · have hG' : (G != 0) = true := by simpa using hG
            have HE2 : Hid (E = ((k : Int), G)) := by show _ = _; rw [hE.out, HF2.out, if_neg hG]
            clear HF2 hG
            go_wp2_with (go_at_call 18; refine HCA.out.mono ?_; rintro e z ⟨rfl, hz⟩)
            exact bodyPost_ret (v := .tuple #[.int .i64 ((k : Int)), .int .i64 (G)]) (by simp [results, Tryz.results12, go_sem]) rfl ⟨by rw [HE2.out], (KC.out z (hbU.trans (hz.mono hbU.size))).2.2.2⟩
        · have hlt' : ¬ (k : Int) < (n : Int) := by omega
          have HE2 : Hid (E = (0, 0)) := by
            show _ = _
            rw [hE.out, hf.out, List.drop_of_length_le (by rw [HLen.out]; omega)]
            rfl
          have hbF := (KC.out wr hbk.out).2.2.2
          clear hf hE
          go_wp2
          exact bodyPost_ret (v := .tuple #[.int .i64 (0), .int .i64 (0)]) (by simp [results, Tryz.results12, go_sem]) rfl ⟨by rw [HE2.out], hbF⟩
  · have hF' : (F != 0) = true := by simpa using hF
    have hE : Hid (E = (0, F)) := by show _ = _; rw [HE.out, if_pos hF]
    clear HE hF
    go_wp2_with (go_at_call 17; refine hCk.mono ?_; rintro e w1 ⟨rfl, hb1⟩)
    exact bodyPost_ret (v := .tuple #[.int .i64 (0), .int .i64 (F)]) (by simp [results, Tryz.results12, go_sem]) rfl ⟨by rw [hE.out], (KC.out w1 hb1).2.2.2⟩
end Go.Proofs.YtjihmhijnpjnoaaGreatDoor.Ln
