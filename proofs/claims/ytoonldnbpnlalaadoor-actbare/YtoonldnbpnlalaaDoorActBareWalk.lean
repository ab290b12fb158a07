/- The walk of the law ActBare: at any raw numbers it returns true and leaves what was in memory. -/
import Derived.Test.YtoonldnbpnlalaaDoorLnCheck
import Derived.Test.YtoonldnbpnlalaaDoorLnActs20
import Derived.Test.YtoonldnbpnlalaaDoorPTwo
namespace Go.Proofs.YtoonldnbpnlalaaDoor.Ln
open Go.ChangeShapes Go.WideShapes Go.ChangeAt Go.RowKit
open Go.Proofs.YtoonldnbpnlalaaDoor.St (BoxN boxn_new)
open Go.Proofs.YtoonldnbpnlalaaDoor.Pt (LS2 two_any cfg_two)
set_option linter.unusedVariables false

/-- Acts that have what their kinds have not. -/
def odds (bK : Nat) : List AV := [⟨5, 1, 0, 0, 0, none, 0, 0, 0, 0, 0, 0, 0, { data := #[] }, []⟩, ⟨7, 0, 0, 1, 0, none, 0, 0, 0, 0, 0, 0, 0, { data := #[] }, []⟩, ⟨1, 0, 0, 0, 1, none, 0, 0, 1, 0, 0, 0, 0, { data := #[] }, []⟩, ⟨2, 0, 0, 0, 0, none, 0, 0, 0, 0, 0, 0, 0, { data := #[120] }, []⟩, ⟨8, 0, 0, 0, 0, some ⟨bK, 0, none⟩, 1, 1, 0, 0, 0, 0, 0, { data := #[] }, [0]⟩, ⟨1, 0, 0, 0, 0, none, 0, 0, 4, 0, 0, 0, 1, { data := #[] }, []⟩]
theorem odd_fault (bK : Nat) (j : Nat) (hj : j < 6) : actFault 2 LS2 3 ((odds bK).getD j default) = 4 := by
  rcases (by omega : j = 0 ∨ j = 1 ∨ j = 2 ∨ j = 3 ∨ j = 4 ∨ j = 5) with rfl | rfl | rfl | rfl | rfl | rfl <;> rfl
def noAct : AV := ⟨0, 0, 0, 0, 0, none, 0, 0, 0, 0, 0, 0, 0, { data := #[] }, []⟩
theorem no_fault : actFault 2 LS2 3 noAct = 3 := by rfl
theorem two_two : (1 : Int) + pk 1 3 = 2 := by decide
theorem odd_keep {U : World} {bK : Nat} (hz : bK < U.heap.size) (hc : U.cell? ⟨bK, 0, none⟩ = some (.int .i64 0)) (j : Nat) (hj : j < 6) : IsInts U ((odds bK).getD j default).ka ((odds bK).getD j default).kl ((odds bK).getD j default).kc ((odds bK).getD j default).keep := by
  have n0 : IsInts U none 0 0 [] := ⟨rfl, Nat.le_refl _, Nat.zero_le _, fun i => by simp, fun h => absurd h (by omega)⟩
  rcases (by omega : j = 0 ∨ j = 1 ∨ j = 2 ∨ j = 3 ∨ j = 4 ∨ j = 5) with rfl | rfl | rfl | rfl | rfl | rfl
  · exact n0
  · exact n0
  · exact n0
  · exact n0
  · refine ⟨rfl, Nat.le_refl _, (by show 1 ≤ maxLen; decide), fun i => ?_, fun _ => ⟨bK, 0, rfl, hz, fun i hi => ?_⟩⟩
    · cases i with
      | zero => show (-9223372036854775808 : Int) ≤ 0 ∧ (0 : Int) ≤ 9223372036854775807; decide
      | succ i => simp [odds]
    · have hi' : i < 1 := hi
      obtain rfl : i = 0 := by omega
      simpa [odds] using hc
  · exact n0

set_option maxRecDepth 100000 in
set_option maxHeartbeats 8000000 in
theorem actBare_walk (aa : Option Addr) (alen acap : Nat) (rs : List RV) (wh : Int) (w : World) (hr : IsRaws w aa alen acap rs) (hw : (Lit.int .i64 wh).wf = true) (hha : Tab w 0 7 aHas) (hhc : Tab w 1 4 cHas) (ht : CTops w) :
    Calls Tryd.prog 4 #[.slice aa alen acap, .int .i64 wh] w fun e w' => e = .returned (.bool true) ∧ Below w.heap.size w w' := by
  have hwh := i64_bd hw
  have zj := pk_bd wh 6 (by decide)
  have hPk := fun u => picked_any wh 6 u hwh (by decide) (by decide)
  obtain ⟨j, ej⟩ : ∃ j : Nat, pk wh 6 = (j : Int) := ⟨(pk wh 6).toNat, by omega⟩
  rw [ej] at zj hPk
  clear ej hw
  have hj6 : j < 6 := by omega
  have hj6' : (j : Int) < 6 := by omega
  have hj0 : (0 : Int) ≤ (j : Int) := by omega
  have zh := hha.lt (by decide) (by decide)
  have zc := hhc.lt (by decide) (by decide)
  have hTwo := fun u => two_any 1 u (by decide)
  rw [two_two] at hTwo
  have hcf : cfgFault 2 LS2 3 = 0 := cfg_two (by decide) (by decide) (by decide) (by decide)
  have HCF : Hid (cfgFault 2 LS2 3 = 0) := hcf
  clear hcf
  go_enter Tryd.func4, Tryd.ntmps4
  go_upto_region 2 with (go_at_call 7; refine (hTwo _).mono ?_; rintro e w1 ⟨g, rfl, hLb, hg, hb1⟩)
  obtain ⟨X, hX⟩ : ∃ X : World, X = w1.alloc (.cells #[.int .i64 2, .slice (some ⟨g, 0, none⟩) 2 2, .int .i64 3] 24) := ⟨_, rfl⟩
  have bX : Below w1.heap.size w1 X := by rw [hX]; exact (Below.refl _ _).alloc (Nat.le_refl _) _
  have bx0 : BoxN X w1.heap.size 3 [.int .i64 2, .slice (some ⟨g, 0, none⟩) 2 2, .int .i64 3] := by rw [hX]; exact boxn_new w1 #[.int .i64 2, .slice (some ⟨g, 0, none⟩) 2 2, .int .i64 3] 24 3 rfl
  rw [← hX]
  clear hX
  go_upto_region 3 with (fail)
  obtain ⟨Y, hY⟩ : ∃ Y : World, Y = (X.alloc (.cells #[.int .i64 0] 3)).alloc (.cells #[.int .i64 5, .int .i64 1, .int .i64 0, .int .i64 0, .int .i64 0, .slice none 0 0, .int .i64 0, .int .i64 0, .int .i64 0, .int .i64 0, .int .i64 0, .string { data := #[] }, .int .i64 7, .int .i64 0, .int .i64 0, .int .i64 1, .int .i64 0, .slice none 0 0, .int .i64 0, .int .i64 0, .int .i64 0, .int .i64 0, .int .i64 0, .string { data := #[] }, .int .i64 1, .int .i64 0, .int .i64 0, .int .i64 0, .int .i64 1, .slice none 0 0, .int .i64 1, .int .i64 0, .int .i64 0, .int .i64 0, .int .i64 0, .string { data := #[] }, .int .i64 2, .int .i64 0, .int .i64 0, .int .i64 0, .int .i64 0, .slice none 0 0, .int .i64 0, .int .i64 0, .int .i64 0, .int .i64 0, .int .i64 0, .string { data := #[120] }, .int .i64 8, .int .i64 0, .int .i64 0, .int .i64 0, .int .i64 0, .slice (some ⟨X.heap.size, 0, none⟩) 1 1, .int .i64 0, .int .i64 0, .int .i64 0, .int .i64 0, .int .i64 0, .string { data := #[] }, .int .i64 1, .int .i64 0, .int .i64 0, .int .i64 0, .int .i64 0, .slice none 0 0, .int .i64 4, .int .i64 0, .int .i64 0, .int .i64 0, .int .i64 1, .string { data := #[] }] 29) := ⟨_, rfl⟩
  have bY : Below X.heap.size X Y := by rw [hY]; exact ((Below.refl _ _).alloc (Nat.le_refl _) _).alloc (by simp) _
  have k0 : Y.cell? ⟨X.heap.size, 0, none⟩ = some (.int .i64 0) := by rw [hY]; go_simp
  have bO : BoxN Y (X.heap.size + 1) 72 [.int .i64 5, .int .i64 1, .int .i64 0, .int .i64 0, .int .i64 0, .slice none 0 0, .int .i64 0, .int .i64 0, .int .i64 0, .int .i64 0, .int .i64 0, .string { data := #[] }, .int .i64 7, .int .i64 0, .int .i64 0, .int .i64 1, .int .i64 0, .slice none 0 0, .int .i64 0, .int .i64 0, .int .i64 0, .int .i64 0, .int .i64 0, .string { data := #[] }, .int .i64 1, .int .i64 0, .int .i64 0, .int .i64 0, .int .i64 1, .slice none 0 0, .int .i64 1, .int .i64 0, .int .i64 0, .int .i64 0, .int .i64 0, .string { data := #[] }, .int .i64 2, .int .i64 0, .int .i64 0, .int .i64 0, .int .i64 0, .slice none 0 0, .int .i64 0, .int .i64 0, .int .i64 0, .int .i64 0, .int .i64 0, .string { data := #[120] }, .int .i64 8, .int .i64 0, .int .i64 0, .int .i64 0, .int .i64 0, .slice (some ⟨X.heap.size, 0, none⟩) 1 1, .int .i64 0, .int .i64 0, .int .i64 0, .int .i64 0, .int .i64 0, .string { data := #[] }, .int .i64 1, .int .i64 0, .int .i64 0, .int .i64 0, .int .i64 0, .slice none 0 0, .int .i64 4, .int .i64 0, .int .i64 0, .int .i64 0, .int .i64 1, .string { data := #[] }] := by rw [hY]; simpa using boxn_new (X.alloc (.cells #[.int .i64 0] 3)) #[.int .i64 5, .int .i64 1, .int .i64 0, .int .i64 0, .int .i64 0, .slice none 0 0, .int .i64 0, .int .i64 0, .int .i64 0, .int .i64 0, .int .i64 0, .string { data := #[] }, .int .i64 7, .int .i64 0, .int .i64 0, .int .i64 1, .int .i64 0, .slice none 0 0, .int .i64 0, .int .i64 0, .int .i64 0, .int .i64 0, .int .i64 0, .string { data := #[] }, .int .i64 1, .int .i64 0, .int .i64 0, .int .i64 0, .int .i64 1, .slice none 0 0, .int .i64 1, .int .i64 0, .int .i64 0, .int .i64 0, .int .i64 0, .string { data := #[] }, .int .i64 2, .int .i64 0, .int .i64 0, .int .i64 0, .int .i64 0, .slice none 0 0, .int .i64 0, .int .i64 0, .int .i64 0, .int .i64 0, .int .i64 0, .string { data := #[120] }, .int .i64 8, .int .i64 0, .int .i64 0, .int .i64 0, .int .i64 0, .slice (some ⟨X.heap.size, 0, none⟩) 1 1, .int .i64 0, .int .i64 0, .int .i64 0, .int .i64 0, .int .i64 0, .string { data := #[] }, .int .i64 1, .int .i64 0, .int .i64 0, .int .i64 0, .int .i64 0, .slice none 0 0, .int .i64 4, .int .i64 0, .int .i64 0, .int .i64 0, .int .i64 1, .string { data := #[] }] 29 72 rfl
  rw [← hY]
  clear hY
  obtain ⟨m0, em0⟩ : ∃ m, m = w1.heap.size := ⟨_, rfl⟩
  obtain ⟨bK, ebK⟩ : ∃ m, m = X.heap.size := ⟨_, rfl⟩
  have zKY : bK + 1 < Y.heap.size := by rw [ebK]; exact bO.lt
  have zmY : m0 < Y.heap.size := by rw [em0]; exact Nat.lt_of_lt_of_le bx0.lt bY.size
  have bx1 := bx0.below bY bx0.lt
  rw [← ebK] at k0 bO ⊢
  rw [← em0] at bx1 ⊢
  have hwY : Below w.heap.size w Y := hb1.trans ((bX.trans (bY.mono bX.size)).mono hb1.size)
  have hLY : IsLabs Y (some ⟨g, 0, none⟩) 2 2 LS2 := (hLb.below bX).below bY
  have hodd : ∀ i, i < 12 → Y.cell? ⟨bK + 1, j * 12 + i, none⟩ = ((odds bK).getD j default).cells[i]? := by
    intro i hi
    rw [(bO.c (j * 12 + i) (by omega)).1]
    rcases (by omega : j = 0 ∨ j = 1 ∨ j = 2 ∨ j = 3 ∨ j = 4 ∨ j = 5) with rfl | rfl | rfl | rfl | rfl | rfl
    all_goals
      rcases (by omega : i = 0 ∨ i = 1 ∨ i = 2 ∨ i = 3 ∨ i = 4 ∨ i = 5 ∨ i = 6 ∨ i = 7 ∨ i = 8 ∨ i = 9 ∨ i = 10 ∨ i = 11) with rfl | rfl | rfl | rfl | rfl | rfl | rfl | rfl | rfl | rfl | rfl | rfl <;> rfl
  have HO : Hid (∀ U, Below Y.heap.size Y U → (∀ i, i < 12 → U.cell? ⟨bK + 1, j * 12 + i, none⟩ = ((odds bK).getD j default).cells[i]?) ∧ IsInts U ((odds bK).getD j default).ka ((odds bK).getD j default).kl ((odds bK).getD j default).kc ((odds bK).getD j default).keep) := fun U hU =>
    ⟨fun i hi => (hU.cell (p := ⟨bK + 1, j * 12 + i, none⟩) zKY).trans (hodd i hi), odd_keep (Nat.lt_of_lt_of_le (by omega) hU.size) ((hU.cell (p := ⟨bK, 0, none⟩) (by show bK < _; omega)).trans k0) j hj6⟩
  have KC : Hid (∀ U, Below Y.heap.size Y U → U.cell? ⟨m0, 0, none⟩ = some (.int .i64 2) ∧ U.cell? ⟨m0, 1, none⟩ = some (.slice (some ⟨g, 0, none⟩) 2 2) ∧ U.cell? ⟨m0, 2, none⟩ = some (.int .i64 3)) := fun U hU => by
    have b := bx1.below hU bx1.lt
    exact ⟨(b.c 0 (by decide)).1, (b.c 1 (by decide)).1, (b.c 2 (by decide)).1⟩
  have HC : Hid (∀ (v : AV) (U : World), Below Y.heap.size Y U → IsInts U v.ka v.kl v.kc v.keep → Calls Tryd.prog 5 #[.agg #[.int .i64 2, .slice (some ⟨g, 0, none⟩) 2 2, .int .i64 3], .agg v.cells.toArray] U fun e w' => e = .returned (.int .i64 (actFault 2 LS2 3 v)) ∧ Below U.heap.size U w') := fun v U hU hI => by
    have hv := hwY.trans (hU.mono hwY.size)
    exact check_act 2 3 (some ⟨g, 0, none⟩) 2 2 LS2 v U (hLY.below hU) hI (hha.below hv zh) (hhc.below hv zc) (Nms.below ht hv ht.1)
  have HR : Hid (IsRaws Y aa alen acap rs) := hr.below hwY
  obtain ⟨d0, d1, d2⟩ := KC.out _ (Below.refl _ _)
  clear hodd k0 bO bx1 bx0 hLY hLb hha hhc ht hr ebK em0 bX bY hTwo hg
  go_upto_region 4 with (go_at_call 8; refine (acts_any 2 3 (some ⟨g, 0, none⟩) 2 2 aa alen acap rs _ (by decide) (by decide) HR.out).mono ?_; rintro e w2 ⟨ao, ac, ys, rfl, hys, hfin, h22, hb2⟩)
  have HYL : Hid (ys.length ≤ 22) := h22
  have HFin : Hid (∀ y ∈ ys, actFault 2 LS2 3 y = 0) := fun y hy => (hfin y hy).fault HCF.out rfl
  obtain ⟨n, en⟩ : ∃ n, n = ys.length := ⟨_, rfl⟩
  have HN : Hid (n = ys.length) := en
  rw [← en] at h22 hys ⊢
  have HYS : Hid (IsActs w2 ao n ac ys) := hys
  clear en hys hfin d0 d1 d2
  have hn22 : (n : Int) ≤ 22 := by omega
  go_loopw [8, 24] (fun _ i wr => ∃ k : Nat, k ≤ n ∧ i = .int .i64 (k : Int) ∧ Below w2.heap.size w2 wr) (fun _ i _ => n - (intOf i).toNat)
  case atStart => exact ⟨0, Nat.zero_le _, rfl, Below.refl _ _⟩
  case round =>
    obtain ⟨k, hk, rfl, hb⟩ := hrel
    have hYr : Below Y.heap.size Y wr := hb2.trans (hb.mono hb2.size)
    by_cases hlt : k < n
    · have hlt' : (k : Int) < (n : Int) := by omega
      have hA := HYS.out.below hb
      obtain ⟨b, off, rfl, hAt⟩ := hA.2.2.2 (by omega)
      have hky : k < ys.length := by rw [← HN.out]; exact hlt
      have hcells := (hAt.2 k hky).1
      have hkp := (hAt.2 k hky).2
      have zb := hAt.1
      have hft : actFault 2 LS2 3 (ys.getD k default) = 0 := HFin.out _ (by
        have e : ys.getD k default = ys[k] := by simp [List.getD, hky]
        rw [e]
        exact List.getElem_mem _)
      have hcap : k < ac := by have := hA.2.1; omega
      have hChk := HC.out (ys.getD k default)
      obtain ⟨y, ey⟩ : ∃ y, y = ys.getD k default := ⟨_, rfl⟩
      rw [← ey] at hcells hkp hft hChk
      rw [hft] at hChk
      clear ey hft hA hAt hky
      obtain ⟨kind, site, tu, label, pick, ka, kl, kc, c0, c1, c2, c3, c4, line, keep⟩ := y
      simp only [AV.cells] at *
      have a0 := hcells 0 (by decide)
      have a1 := hcells 1 (by decide)
      have a2 := hcells 2 (by decide)
      have a3 := hcells 3 (by decide)
      have a4 := hcells 4 (by decide)
      have a5 := hcells 5 (by decide)
      have a6 := hcells 6 (by decide)
      have a7 := hcells 7 (by decide)
      have a8 := hcells 8 (by decide)
      have a9 := hcells 9 (by decide)
      have a10 := hcells 10 (by decide)
      have a11 := hcells 11 (by decide)
      simp at a0 a1 a2 a3 a4 a5 a6 a7 a8 a9 a10 a11
      clear hcells
      obtain ⟨V, hV⟩ : ∃ V : World, V = wr.alloc (.cells #[.int .i64 kind, .int .i64 site, .int .i64 tu, .int .i64 label, .int .i64 pick, .slice ka kl kc, .int .i64 c0, .int .i64 c1, .int .i64 c2, .int .i64 c3, .int .i64 c4, .string line] 29) := ⟨_, rfl⟩
      have bV : Below wr.heap.size wr V := by rw [hV]; exact (Below.refl _ _).alloc (Nat.le_refl _) _
      have bxV : BoxN V wr.heap.size 12 [.int .i64 kind, .int .i64 site, .int .i64 tu, .int .i64 label, .int .i64 pick, .slice ka kl kc, .int .i64 c0, .int .i64 c1, .int .i64 c2, .int .i64 c3, .int .i64 c4, .string line] := by rw [hV]; exact boxn_new wr #[.int .i64 kind, .int .i64 site, .int .i64 tu, .int .i64 label, .int .i64 pick, .slice ka kl kc, .int .i64 c0, .int .i64 c1, .int .i64 c2, .int .i64 c3, .int .i64 c4, .string line] 29 12 rfl
      have hYV : Below Y.heap.size Y V := hYr.trans (bV.mono hYr.size)
      obtain ⟨d0, d1, d2⟩ := KC.out _ hYV
      have b0 := (bxV.c 0 (by decide)).1
      have b1 := (bxV.c 1 (by decide)).1
      have b2 := (bxV.c 2 (by decide)).1
      have b3 := (bxV.c 3 (by decide)).1
      have b4 := (bxV.c 4 (by decide)).1
      have b5 := (bxV.c 5 (by decide)).1
      have b6 := (bxV.c 6 (by decide)).1
      have b7 := (bxV.c 7 (by decide)).1
      have b8 := (bxV.c 8 (by decide)).1
      have b9 := (bxV.c 9 (by decide)).1
      have b10 := (bxV.c 10 (by decide)).1
      have b11 := (bxV.c 11 (by decide)).1
      simp only [List.getD_cons_zero, List.getD_cons_succ] at b0 b1 b2 b3 b4 b5 b6 b7 b8 b9 b10 b11
      have zV := bxV.lt
      have zm : m0 < V.heap.size := Nat.lt_of_lt_of_le zmY hYV.size
      go_upto_region 6 with (fail)
      rw [← hV]
      clear hV bxV a0 a1 a2 a3 a4 a5 a6 a7 a8 a9 a10 a11
      have hkV := hkp.below bV
      have hCV := hChk V hYV hkV
      clear hChk hkp
      go_wp2_with (go_at_call 5; refine hCV.mono ?_; rintro e w3 ⟨rfl, hb3⟩)
      go_roundw
      case rel => exact ⟨k + 1, by omega, by go_num, hb.trans ((bV.trans (hb3.mono bV.size)).mono hb.size)⟩
      case measure => simp [intOf]; omega
    · have hlt' : ¬ (k : Int) < (n : Int) := by omega
      have hft := odd_fault bK j hj6
      have hCo := HC.out ((odds bK).getD j default)
      rw [hft] at hCo
      have hHo := HO.out
      obtain ⟨y, ey⟩ : ∃ y, y = (odds bK).getD j default := ⟨_, rfl⟩
      rw [← ey] at hCo hHo
      clear ey hft HO
      obtain ⟨kind, site, tu, label, pick, ka, kl, kc, c0, c1, c2, c3, c4, line, keep⟩ := y
      simp only [AV.cells] at hCo hHo
      have HCo : Hid (∀ U : World, Below Y.heap.size Y U → Calls Tryd.prog 5 #[.agg #[.int .i64 2, .slice (some ⟨g, 0, none⟩) 2 2, .int .i64 3], .agg #[.int .i64 kind, .int .i64 site, .int .i64 tu, .int .i64 label, .int .i64 pick, .slice ka kl kc, .int .i64 c0, .int .i64 c1, .int .i64 c2, .int .i64 c3, .int .i64 c4, .string line]] U fun e w' => e = .returned (.int .i64 4) ∧ Below U.heap.size U w') := fun U hU => hCo U hU (hHo U hU).2
      have HCn : Hid (∀ U : World, Below Y.heap.size Y U → Calls Tryd.prog 5 #[.agg #[.int .i64 2, .slice (some ⟨g, 0, none⟩) 2 2, .int .i64 3], .agg #[.int .i64 0, .int .i64 0, .int .i64 0, .int .i64 0, .int .i64 0, .slice none 0 0, .int .i64 0, .int .i64 0, .int .i64 0, .int .i64 0, .int .i64 0, .string { data := #[] }]] U fun e w' => e = .returned (.int .i64 3) ∧ Below U.heap.size U w') := fun U hU => by
        have h := HC.out noAct U hU ⟨rfl, Nat.le_refl _, Nat.zero_le _, fun i => by simp [noAct], fun h => absurd h (by simp [noAct])⟩
        rw [no_fault] at h
        exact h
      have KO : Hid (∀ U : World, Below Y.heap.size Y U → U.cell? ⟨bK + 1, j * 12, none⟩ = some (.int .i64 kind) ∧ U.cell? ⟨bK + 1, j * 12 + 1, none⟩ = some (.int .i64 site) ∧ U.cell? ⟨bK + 1, j * 12 + 2, none⟩ = some (.int .i64 tu) ∧ U.cell? ⟨bK + 1, j * 12 + 3, none⟩ = some (.int .i64 label) ∧ U.cell? ⟨bK + 1, j * 12 + 4, none⟩ = some (.int .i64 pick) ∧ U.cell? ⟨bK + 1, j * 12 + 5, none⟩ = some (.slice ka kl kc) ∧ U.cell? ⟨bK + 1, j * 12 + 6, none⟩ = some (.int .i64 c0) ∧ U.cell? ⟨bK + 1, j * 12 + 7, none⟩ = some (.int .i64 c1) ∧ U.cell? ⟨bK + 1, j * 12 + 8, none⟩ = some (.int .i64 c2) ∧ U.cell? ⟨bK + 1, j * 12 + 9, none⟩ = some (.int .i64 c3) ∧ U.cell? ⟨bK + 1, j * 12 + 10, none⟩ = some (.int .i64 c4) ∧ U.cell? ⟨bK + 1, j * 12 + 11, none⟩ = some (.string line)) := fun U hU => by
        have h := (hHo U hU).1
        have a0 := h 0 (by decide)
        have a1 := h 1 (by decide)
        have a2 := h 2 (by decide)
        have a3 := h 3 (by decide)
        have a4 := h 4 (by decide)
        have a5 := h 5 (by decide)
        have a6 := h 6 (by decide)
        have a7 := h 7 (by decide)
        have a8 := h 8 (by decide)
        have a9 := h 9 (by decide)
        have a10 := h 10 (by decide)
        have a11 := h 11 (by decide)
        simp at a0 a1 a2 a3 a4 a5 a6 a7 a8 a9 a10 a11
        exact ⟨a0, a1, a2, a3, a4, a5, a6, a7, a8, a9, a10, a11⟩
      clear hCo hHo HC HFin HYS HN HYL
      go_upto_region 9 with (fail)
      go_cut [4] (fun s4 wc => s4 = .bool true ∧ Below wr.heap.size wr wc)
      case first =>
        refine wp_region_inv (by kernel_rfl) [33, 34, 35, 36, 37, 38, 39, 40, 41, 42, 43, 44, 45, 46, 47, 48, 4] (fun L T u => Below wr.heap.size wr u ∧ (L 0 = true → T 33 = .agg #[.int .i64 2, .slice (some ⟨g, 0, none⟩) 2 2, .int .i64 3]) ∧ (L 1 = true → T 34 = .slice (some ⟨bK + 1, 0, none⟩) 6 6) ∧ (L 2 = true → T 35 = .int .i64 wh) ∧ (L 3 = true → T 36 = .slice (some ⟨bK + 1, 0, none⟩) 6 6) ∧ (L 4 = true → T 37 = .int .i64 6) ∧ (L 5 = true → T 38 = .int .i64 (j : Int)) ∧ (L 6 = true → T 39 = .pointer (some ⟨bK + 1, j * 12, none⟩)) ∧ (L 7 = true → T 40 = .agg #[.int .i64 kind, .int .i64 site, .int .i64 tu, .int .i64 label, .int .i64 pick, .slice ka kl kc, .int .i64 c0, .int .i64 c1, .int .i64 c2, .int .i64 c3, .int .i64 c4, .string line]) ∧ (L 8 = true → T 41 = .int .i64 4) ∧ (L 9 = true → T 42 = .bool true) ∧ (L 10 = true → T 43 = .bool true) ∧ (L 11 = true → T 44 = .agg #[.int .i64 2, .slice (some ⟨g, 0, none⟩) 2 2, .int .i64 3]) ∧ (L 12 = true → T 45 = .agg #[.int .i64 0, .int .i64 0, .int .i64 0, .int .i64 0, .int .i64 0, .slice none 0 0, .int .i64 0, .int .i64 0, .int .i64 0, .int .i64 0, .int .i64 0, .string { data := #[] }]) ∧ (L 13 = true → T 46 = .int .i64 3) ∧ (L 14 = true → T 47 = .bool true) ∧ (L 15 = true → T 48 = .bool true) ∧ (L 16 = true → T 4 = .bool true)) (by decide) (by kernel_rfl) (by kernel_rfl) ?_ ?_ ?_
        · exact ⟨(Below.refl _ _).drew, nofun, nofun, nofun, nofun, nofun, nofun, nofun, nofun, nofun, nofun, nofun, nofun, nofun, nofun, nofun, nofun, nofun⟩
        · refine ⟨?_, ?_, ?_, ?_, ?_, ?_, ?_, ?_, ?_, ?_, ?_, ?_, ?_, ?_, ?_, ?_, ?_, trivial⟩
          · rintro L T u hd hk hcl ⟨hb, f0, f1, f2, f3, f4, f5, f6, f7, f8, f9, f10, f11, f12, f13, f14, f15, f16⟩ K hK
            simp only [fr, Act.put, List.setIfInBounds_toArray, List.set_cons_zero, List.set_cons_succ, updO] at hK ⊢
            simp [Region.binds] at hd
            have hbY : Below Y.heap.size Y u := hYr.trans (hb.mono hYr.size)
            obtain ⟨d0, d1, d2⟩ := KC.out u hbY
            rw [if_pos (by first | rfl | simp [Region.wanted, yielded, gw])]
            simp only [Oper.wpv]
            go_simp
            exact hK _ _ ⟨hb, fun _ => rfl, f1, f2, f3, f4, f5, f6, f7, f8, f9, f10, f11, f12, f13, f14, f15, f16⟩
          · rintro L T u hd hk hcl ⟨hb, f0, f1, f2, f3, f4, f5, f6, f7, f8, f9, f10, f11, f12, f13, f14, f15, f16⟩ K hK
            simp only [fr, Act.put, List.setIfInBounds_toArray, List.set_cons_zero, List.set_cons_succ, updO] at hK ⊢
            simp [Region.binds] at hd
            rw [if_pos (by first | rfl | simp [Region.wanted, yielded, gw])]
            simp only [Oper.wpv]
            go_simp
            exact hK _ _ ⟨hb, f0, fun _ => rfl, f2, f3, f4, f5, f6, f7, f8, f9, f10, f11, f12, f13, f14, f15, f16⟩
          · rintro L T u hd hk hcl ⟨hb, f0, f1, f2, f3, f4, f5, f6, f7, f8, f9, f10, f11, f12, f13, f14, f15, f16⟩ K hK
            simp only [fr, Act.put, List.setIfInBounds_toArray, List.set_cons_zero, List.set_cons_succ, updO] at hK ⊢
            simp [Region.binds] at hd
            rw [if_pos (by first | rfl | simp [Region.wanted, yielded, gw])]
            simp only [Oper.wpv]
            go_simp
            exact hK _ _ ⟨hb, f0, f1, fun _ => rfl, f3, f4, f5, f6, f7, f8, f9, f10, f11, f12, f13, f14, f15, f16⟩
          · rintro L T u hd hk hcl ⟨hb, f0, f1, f2, f3, f4, f5, f6, f7, f8, f9, f10, f11, f12, f13, f14, f15, f16⟩ K hK
            simp only [fr, Act.put, List.setIfInBounds_toArray, List.set_cons_zero, List.set_cons_succ, updO] at hK ⊢
            simp [Region.binds] at hd
            rw [if_pos (by first | rfl | simp [Region.wanted, yielded, gw])]
            simp only [Oper.wpv]
            go_simp
            exact hK _ _ ⟨hb, f0, f1, f2, fun _ => rfl, f4, f5, f6, f7, f8, f9, f10, f11, f12, f13, f14, f15, f16⟩
          · rintro L T u hd hk hcl ⟨hb, f0, f1, f2, f3, f4, f5, f6, f7, f8, f9, f10, f11, f12, f13, f14, f15, f16⟩ K hK
            simp only [fr, Act.put, List.setIfInBounds_toArray, List.set_cons_zero, List.set_cons_succ, updO] at hK ⊢
            simp [Region.binds] at hd
            have g3 := f3 (by simp [hd])
            rw [if_pos (by first | rfl | simp [Region.wanted, yielded, gw])]
            simp only [Oper.wpv]
            go_simp
            exact hK _ _ ⟨hb, f0, f1, f2, f3, fun _ => rfl, f5, f6, f7, f8, f9, f10, f11, f12, f13, f14, f15, f16⟩
          · rintro L T u hd hk hcl ⟨hb, f0, f1, f2, f3, f4, f5, f6, f7, f8, f9, f10, f11, f12, f13, f14, f15, f16⟩ K hK
            simp only [fr, Act.put, List.setIfInBounds_toArray, List.set_cons_zero, List.set_cons_succ, updO] at hK ⊢
            simp [Region.binds] at hd
            have g2 := f2 (by simp [hd])
            have g4 := f4 (by simp [hd])
            rw [if_pos (by first | rfl | simp [Region.wanted, yielded, gw])]
            simp only [Oper.wpv]
            go_simp
            refine (hPk _).mono ?_
            rintro e u1 ⟨rfl, hu1⟩
            rw [hu1]
            exact hK _ _ ⟨hb, f0, f1, f2, f3, f4, fun _ => rfl, f6, f7, f8, f9, f10, f11, f12, f13, f14, f15, f16⟩
          · rintro L T u hd hk hcl ⟨hb, f0, f1, f2, f3, f4, f5, f6, f7, f8, f9, f10, f11, f12, f13, f14, f15, f16⟩ K hK
            simp only [fr, Act.put, List.setIfInBounds_toArray, List.set_cons_zero, List.set_cons_succ, updO] at hK ⊢
            simp [Region.binds] at hd
            have g1 := f1 (by simp [hd])
            have g5 := f5 (by simp [hd])
            rw [if_pos (by first | rfl | simp [Region.wanted, yielded, gw])]
            simp only [Oper.wpv]
            go_simp
            exact hK _ _ ⟨hb, f0, f1, f2, f3, f4, f5, fun _ => rfl, f7, f8, f9, f10, f11, f12, f13, f14, f15, f16⟩
          · rintro L T u hd hk hcl ⟨hb, f0, f1, f2, f3, f4, f5, f6, f7, f8, f9, f10, f11, f12, f13, f14, f15, f16⟩ K hK
            simp only [fr, Act.put, List.setIfInBounds_toArray, List.set_cons_zero, List.set_cons_succ, updO] at hK ⊢
            simp [Region.binds] at hd
            have g6 := f6 (by simp [hd])
            have hbY : Below Y.heap.size Y u := hYr.trans (hb.mono hYr.size)
            obtain ⟨a0, a1, a2, a3, a4, a5, a6, a7, a8, a9, a10, a11⟩ := KO.out u hbY
            rw [if_pos (by first | rfl | simp [Region.wanted, yielded, gw])]
            simp only [Oper.wpv]
            go_simp
            exact hK _ _ ⟨hb, f0, f1, f2, f3, f4, f5, f6, fun _ => rfl, f8, f9, f10, f11, f12, f13, f14, f15, f16⟩
          · rintro L T u hd hk hcl ⟨hb, f0, f1, f2, f3, f4, f5, f6, f7, f8, f9, f10, f11, f12, f13, f14, f15, f16⟩ K hK
            simp only [fr, Act.put, List.setIfInBounds_toArray, List.set_cons_zero, List.set_cons_succ, updO] at hK ⊢
            simp [Region.binds] at hd
            have g0 := f0 (by simp [hd])
            have g7 := f7 (by simp [hd])
            have hbY : Below Y.heap.size Y u := hYr.trans (hb.mono hYr.size)
            rw [if_pos (by first | rfl | simp [Region.wanted, yielded, gw])]
            simp only [Oper.wpv]
            go_simp
            refine (HCo.out _ hbY).mono ?_
            rintro e u1 ⟨rfl, hg⟩
            exact hK _ _ ⟨(nT hb hg), f0, f1, f2, f3, f4, f5, f6, f7, fun _ => rfl, f9, f10, f11, f12, f13, f14, f15, f16⟩
          · rintro L T u hd hk hcl ⟨hb, f0, f1, f2, f3, f4, f5, f6, f7, f8, f9, f10, f11, f12, f13, f14, f15, f16⟩ K hK
            simp only [fr, Act.put, List.setIfInBounds_toArray, List.set_cons_zero, List.set_cons_succ, updO] at hK ⊢
            simp [Region.binds] at hd
            have g8 := f8 (by simp [hd])
            rw [if_pos (by first | rfl | simp [Region.wanted, yielded, gw])]
            simp only [Oper.wpv]
            go_simp
            exact hK _ _ ⟨hb, f0, f1, f2, f3, f4, f5, f6, f7, f8, fun _ => rfl, f10, f11, f12, f13, f14, f15, f16⟩
          · rintro L T u hd hk hcl ⟨hb, f0, f1, f2, f3, f4, f5, f6, f7, f8, f9, f10, f11, f12, f13, f14, f15, f16⟩ K hK
            simp only [fr, Act.put, List.setIfInBounds_toArray, List.set_cons_zero, List.set_cons_succ, updO] at hK ⊢
            simp [Region.binds] at hd
            have g9 := f9 (by simp [hd])
            rw [if_pos (by first | rfl | simp [Region.wanted, yielded, gw])]
            simp only [Oper.wpv]
            go_simp
            exact hK _ _ ⟨hb, f0, f1, f2, f3, f4, f5, f6, f7, f8, f9, fun _ => rfl, f11, f12, f13, f14, f15, f16⟩
          · rintro L T u hd hk hcl ⟨hb, f0, f1, f2, f3, f4, f5, f6, f7, f8, f9, f10, f11, f12, f13, f14, f15, f16⟩ K hK
            simp only [fr, Act.put, List.setIfInBounds_toArray, List.set_cons_zero, List.set_cons_succ, updO] at hK ⊢
            simp [Region.binds] at hd
            have hbY : Below Y.heap.size Y u := hYr.trans (hb.mono hYr.size)
            obtain ⟨d0, d1, d2⟩ := KC.out u hbY
            have hwt : L 10 = true := by simp [hd]
            have gw := f10 hwt
            rw [if_pos (by first | rfl | simp [Region.wanted, yielded, gw])]
            simp only [Oper.wpv]
            go_simp
            exact hK _ _ ⟨hb, f0, f1, f2, f3, f4, f5, f6, f7, f8, f9, f10, fun _ => rfl, f12, f13, f14, f15, f16⟩
          · rintro L T u hd hk hcl ⟨hb, f0, f1, f2, f3, f4, f5, f6, f7, f8, f9, f10, f11, f12, f13, f14, f15, f16⟩ K hK
            simp only [fr, Act.put, List.setIfInBounds_toArray, List.set_cons_zero, List.set_cons_succ, updO] at hK ⊢
            simp [Region.binds] at hd
            have hwt : L 10 = true := by simp [hd]
            have gw := f10 hwt
            rw [if_pos (by first | rfl | simp [Region.wanted, yielded, gw])]
            simp only [Oper.wpv]
            go_simp
            exact hK _ _ ⟨hb, f0, f1, f2, f3, f4, f5, f6, f7, f8, f9, f10, f11, fun _ => rfl, f13, f14, f15, f16⟩
          · rintro L T u hd hk hcl ⟨hb, f0, f1, f2, f3, f4, f5, f6, f7, f8, f9, f10, f11, f12, f13, f14, f15, f16⟩ K hK
            simp only [fr, Act.put, List.setIfInBounds_toArray, List.set_cons_zero, List.set_cons_succ, updO] at hK ⊢
            simp [Region.binds] at hd
            have hwt : L 10 = true := by simp [hd]
            have gw := f10 hwt
            have g11 := f11 (by simp [hd])
            have g12 := f12 (by simp [hd])
            have hbY : Below Y.heap.size Y u := hYr.trans (hb.mono hYr.size)
            rw [if_pos (by first | rfl | simp [Region.wanted, yielded, gw])]
            simp only [Oper.wpv]
            go_simp
            refine (HCn.out _ hbY).mono ?_
            rintro e u1 ⟨rfl, hg⟩
            exact hK _ _ ⟨(nT hb hg), f0, f1, f2, f3, f4, f5, f6, f7, f8, f9, f10, f11, f12, fun _ => rfl, f14, f15, f16⟩
          · rintro L T u hd hk hcl ⟨hb, f0, f1, f2, f3, f4, f5, f6, f7, f8, f9, f10, f11, f12, f13, f14, f15, f16⟩ K hK
            simp only [fr, Act.put, List.setIfInBounds_toArray, List.set_cons_zero, List.set_cons_succ, updO] at hK ⊢
            simp [Region.binds] at hd
            have hwt : L 10 = true := by simp [hd]
            have gw := f10 hwt
            have g13 := f13 (by simp [hd])
            rw [if_pos (by first | rfl | simp [Region.wanted, yielded, gw])]
            simp only [Oper.wpv]
            go_simp
            exact hK _ _ ⟨hb, f0, f1, f2, f3, f4, f5, f6, f7, f8, f9, f10, f11, f12, f13, fun _ => rfl, f15, f16⟩
          · rintro L T u hd hk hcl ⟨hb, f0, f1, f2, f3, f4, f5, f6, f7, f8, f9, f10, f11, f12, f13, f14, f15, f16⟩ K hK
            simp only [fr, Act.put, List.setIfInBounds_toArray, List.set_cons_zero, List.set_cons_succ, updO] at hK ⊢
            simp [Region.binds] at hd
            have g10 := f10 (by simp [hd])
            have g14 := f14 (by simp [hd])
            rw [if_pos (by first | rfl | simp [Region.wanted, yielded, gw])]
            simp only [Oper.wpv]
            go_simp
            exact hK _ _ ⟨hb, f0, f1, f2, f3, f4, f5, f6, f7, f8, f9, f10, f11, f12, f13, f14, fun _ => rfl, f16⟩
          · rintro L T u hd hk hcl ⟨hb, f0, f1, f2, f3, f4, f5, f6, f7, f8, f9, f10, f11, f12, f13, f14, f15, f16⟩ K hK
            simp only [fr, Act.put, List.setIfInBounds_toArray, List.set_cons_zero, List.set_cons_succ, updO] at hK ⊢
            simp [Region.binds] at hd
            have g15 := f15 (by simp [hd])
            rw [if_pos (by first | rfl | simp [Region.wanted, yielded, gw])]
            simp only [Oper.wpv]
            go_simp
            exact hK _ _ ⟨hb, f0, f1, f2, f3, f4, f5, f6, f7, f8, f9, f10, f11, f12, f13, f14, f15, fun _ => rfl⟩
        · rintro L T u hl ⟨hb, f0, f1, f2, f3, f4, f5, f6, f7, f8, f9, f10, f11, f12, f13, f14, f15, f16⟩
          simp only [fr, Act.put, List.setIfInBounds_toArray, List.set_cons_zero, List.set_cons_succ]
          have g16 := f16 (hl 16 (by decide))
          have HE : Hid (T 4 = .bool true) := g16
          clear g16 f0 f1 f2 f3 f4 f5 f6 f7 f8 f9 f10 f11 f12 f13 f14 f15 f16
          go_wp2_with fail
          go_meet
          case rel => exact ⟨HE.out, hb⟩
      case rest =>
        obtain ⟨rfl, bF⟩ := hcut
        go_wp2
        go_ret
        exact ⟨rfl, hwY.trans ((hYr.trans (bF.mono hYr.size)).mono hwY.size)⟩
end Go.Proofs.YtoonldnbpnlalaaDoor.Ln
