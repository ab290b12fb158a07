/- The walk of the law ConfigGood: at any raw numbers it returns true and leaves what was in memory. -/
import Derived.Test.YtppnhcnkcbhbiaaConfig
import Derived.Deep.RegionHeld3
import Derived.Deep.AppendLies
namespace Go.Proofs.Ytppnhcnkcbhbiaa
open Go.ChangeShapes Go.WideShapes Go.ChangeAt Go.RowKit
set_option linter.unusedVariables false

theorem labFault_twice : ∀ (rest seen : List (Int × Int)) (x : Int × Int), (seen ++ rest).Nodup → (∀ p ∈ rest, 0 ≤ p.1 ∧ p.1 ≤ 2 ∧ 0 ≤ p.2 ∧ p.2 ≤ 3) → (0 ≤ x.1 ∧ x.1 ≤ 2 ∧ 0 ≤ x.2 ∧ x.2 ≤ 3) → x ∈ seen ++ rest → labFault seen (rest ++ [x]) = 7 := by
  intro rest
  induction rest with
  | nil =>
    intro seen x _ _ hx hm
    have hb : inB x.1 x.2 = true := by unfold inB; simp; omega
    rw [List.nil_append, labFault, if_neg (by rw [hb]; simp), if_pos (by simpa using hm)]
  | cons a r ih =>
    intro seen x hn hs hx hm
    have ha := hs a (by simp)
    have hb : inB a.1 a.2 = true := by unfold inB; simp; omega
    have hna : a ∉ seen := by
      intro hm
      rw [List.nodup_append] at hn
      exact hn.2.2 a hm a (by simp) rfl
    rw [List.cons_append, labFault, if_neg (by rw [hb]; simp), if_neg hna]
    refine ih _ x ?_ (fun p hp => hs p (by simp [hp])) hx ?_
    · rwa [List.append_assoc]
    · rwa [List.append_assoc]

theorem isLabs_own {w : World} {g cp : Nat} {ls : List (Int × Int)} (h : Labs w g 0 ls) (h1 : ls.length ≤ cp) (h2 : cp ≤ maxLen) : IsLabs w (some ⟨g, 0, none⟩) ls.length cp ls :=
  ⟨rfl, h1, h2, fun _ => ⟨g, 0, rfl, h⟩⟩

theorem news_labs {w : World} {g : Nat} {ls : List (Int × Int)} (h : Labs w g 0 ls) : ∀ j u, (flat ls)[j]? = some u → w.cell? ((⟨g, 0, none⟩ : Addr).add j) = some u := by
  intro j u hu
  have e : (⟨g, 0, none⟩ : Addr).add j = ⟨g, 0 + j, none⟩ := by
    unfold Addr.add
    by_cases hj : j = 0 <;> simp [hj]
  rw [e]
  have hj : j < ls.length * 2 := by
    rw [← flat_len]
    exact (List.getElem?_eq_some_iff.1 hu).1
  have hi : j / 2 < ls.length := by omega
  have hg := flat_get ls (j / 2) hi
  have hc := h.2 (j / 2) hi
  rcases Nat.mod_two_eq_zero_or_one j with hm | hm
  · have ej : j / 2 * 2 = j := by omega
    rw [ej] at hg hc
    rw [hg.1] at hu
    rw [hc.1]
    exact hu
  · have ej : j / 2 * 2 + 1 = j := by omega
    rw [ej] at hg
    rw [Nat.add_assoc, ej] at hc
    rw [hg.2] at hu
    rw [hc.2]
    exact hu

theorem flat_one (ls : List (Int × Int)) : ∀ u ∈ flat ls, u.oneCell' = true := by
  intro u hu
  simp [flat] at hu
  obtain ⟨a, b, _, h | h⟩ := hu <;> subst h <;> rfl

set_option maxHeartbeats 4000000 in
theorem configGood_walk (s : Int) (a : Option Addr) (len cap : Nat) (zs : List Int) (p : Int) (w : World) (hs : (Lit.int .i64 s).wf = true) (h : IsInts w a len cap zs) (hp : (Lit.int .i64 p).wf = true) :
    Calls Try.prog 3 #[.int .i64 s, .slice a len cap, .int .i64 p] w fun e w' => e = .returned (.bool true) ∧ Below w.heap.size w w' := by
  have hs' := i64_bd hs
  have hp' := i64_bd hp
  obtain ⟨i0, hi, li0, li1, li2⟩ := info_parts labInfo
  have bs := cfgS_bd s
  have bp := cfgP_bd p
  have hg := good_labs zs
  have hCfg := fun w' h' => config_any s p a len cap zs w' hs' hp' h'
  obtain ⟨S, eS⟩ : ∃ S, S = cfgS s := ⟨_, rfl⟩
  obtain ⟨P, eP⟩ : ∃ P, P = cfgP p := ⟨_, rfl⟩
  obtain ⟨L, eL⟩ : ∃ L, L = cfgLabs zs := ⟨_, rfl⟩
  rw [← eS] at bs
  rw [← eP] at bp
  rw [← eL] at hg
  rw [← eS, ← eP, ← eL] at hCfg
  clear eS eP eL
  obtain ⟨hgood, hn1⟩ := hg
  have hn4 := hgood.len
  obtain ⟨x, y, hxy, hmem⟩ : ∃ x y : Int, L.getD 0 (0, 0) = (x, y) ∧ (x, y) ∈ L := by
    refine ⟨(L.getD 0 (0, 0)).1, (L.getD 0 (0, 0)).2, rfl, ?_⟩
    have e : L.getD 0 (0, 0) = L[0]'(by omega) := by simp [List.getD, show 0 < L.length by omega]
    rw [e]
    exact List.getElem_mem _
  have hF0 : cfgFault S L P = 0 := cfgFault_good hgood hn1 (by omega) (by omega)
  have hF7 : cfgFault S (L ++ [(x, y)]) P = 7 := cfg_lab (by omega) (by omega) (by simp) (by simp; omega) (labFault_twice L [] (x, y) (by simpa using hgood.once) hgood.small (hgood.small _ hmem) (by simpa using hmem)) (by decide)
  have hF2 : cfgFault 0 [] 0 = 2 := cfg_sites (by decide)
  have hfl := flat_len L
  obtain ⟨n, en⟩ : ∃ n, n = L.length := ⟨_, rfl⟩
  rw [← en] at hn1 hn4 hCfg hfl
  have EN : Hid (n = L.length) := en
  clear en
  have t1 : True := trivial
  have t2 : True := trivial
  go_enter Try.func3, Try.ntmps3
  go_wp2_with (go_at_call 8; refine (hCfg _ h).mono ?_; rintro e w1 ⟨g, cp, rfl, hg1, hg2, hg3, hg4, hb1⟩)
  obtain ⟨W, hW⟩ : ∃ W : World, W = (w1.alloc (.cells #[.int .i64 S, .slice (some ⟨g, 0, none⟩) n cp, .int .i64 P] 25)).alloc (.cells #[.int .i64 S, .slice (some ⟨g, 0, none⟩) n cp, .int .i64 P] 25) := ⟨_, rfl⟩
  have zW : W.heap.size = w1.heap.size + 2 := by rw [hW]; simp
  have c0 : W.cell? ⟨w1.heap.size, 0, none⟩ = some (.int .i64 S) := by rw [hW]; go_simp
  have c1 : W.cell? ⟨w1.heap.size, 1, none⟩ = some (.slice (some ⟨g, 0, none⟩) n cp) := by rw [hW]; go_simp
  have c2 : W.cell? ⟨w1.heap.size, 2, none⟩ = some (.int .i64 P) := by rw [hW]; go_simp
  have d0 : W.cell? ⟨w1.heap.size + 1, 0, none⟩ = some (.int .i64 S) := by rw [hW]; go_simp
  have d1 : W.cell? ⟨w1.heap.size + 1, 1, none⟩ = some (.slice (some ⟨g, 0, none⟩) n cp) := by rw [hW]; go_simp
  have d2 : W.cell? ⟨w1.heap.size + 1, 2, none⟩ = some (.int .i64 P) := by rw [hW]; go_simp
  have df : W.frozen? ⟨w1.heap.size + 1, 1, none⟩ = false := by rw [hW]; go_simp
  have hBW : Below w1.heap.size w1 W := by rw [hW]; exact ((Below.refl _ _).alloc (Nat.le_refl _) _).alloc (by simp) _
  rw [← hW]
  clear hW
  have hLW : Labs W g 0 L := hg4.below hBW
  have hB0 : Below w.heap.size w W := hb1.trans (hBW.mono hb1.size)
  obtain ⟨l0, l1⟩ := hLW.2 0 (by have := EN.out; omega)
  rw [hxy] at l0 l1
  dsimp only at l0 l1
  have hgW := hLW.1
  have hgne : g ≠ w1.heap.size + 1 := by have := hg4.1; omega
  have hLen : (0 : Int) < (n : Int) := by omega
  have hLen' : 0 < n := by omega
  have far : ∀ (V : World) (u : Value) (q : Addr), q.block ≠ w1.heap.size + 1 → (V.setCell ⟨w1.heap.size + 1, 1, none⟩ u).cell? q = V.cell? q := fun V u q hq => World.cell?_of_block (Below.heap_setCell V _ u _ hq)
  have hne1 : (⟨w1.heap.size, 1, none⟩ : Addr).block ≠ w1.heap.size + 1 := by show w1.heap.size ≠ _; omega
  have hnewA : ∀ j u, [Value.int .i64 x, .int .i64 y][j]? = some u → ((W.alloc (.cells #[.int .i64 x, .int .i64 y] 28)).drew).cell? ((⟨W.heap.size, 0, none⟩ : Addr).add j) = some u := cell_two_new W _ _ _
  have hnewB : ∀ j u, [Value.int .i64 x, .int .i64 y][j]? = some u → (W.drew.alloc (.cells #[.int .i64 x, .int .i64 y] 28)).cell? ((⟨W.heap.size, 0, none⟩ : Addr).add j) = some u := cell_two_new W.drew _ _ _
  rw [zW] at hnewA hnewB
  clear hg4 hBW
  go_region_held3 (fun w' => w'.cell? ⟨w1.heap.size, 1, none⟩ = some (.slice (some ⟨g, 0, none⟩) n cp) ∧ w'.cell? ⟨g, 0, none⟩ = some (.int .i64 x) ∧ w'.cell? ⟨g, 1, none⟩ = some (.int .i64 y))
    (first | (go_keep; done) | exact ⟨n1 _, n2 _, n3 _⟩ | exact ⟨(hBel2.cell (p := ⟨w1.heap.size, 1, none⟩) (by show w1.heap.size < _; omega)).trans c1, (hBel2.cell (p := ⟨g, 0, none⟩) hgW).trans l0, (hBel2.cell (p := ⟨g, 1, none⟩) hgW).trans l1⟩ | exact ⟨(hBel1.cell (p := ⟨w1.heap.size, 1, none⟩) (by show w1.heap.size < _; omega)).trans c1, (hBel1.cell (p := ⟨g, 0, none⟩) hgW).trans l0, (hBel1.cell (p := ⟨g, 1, none⟩) hgW).trans l1⟩)
    (first
      | ((refine step_append_lies _ (by rfl) (.const (.slice none 0 0)) _ _ (by rfl) W.heap.size 28 i0 (.agg #[.int .i64 0, .int .i64 0]) 2 16 Try.underlying23 hi li0 li1 li2 rfl (by decide) (.slice none 0 0) 0 [] (by rfl) (World.ownsRow_nil _ _ _ _) ⟨g, 0, none⟩ n cp (flat L) (by rfl) hfl (news_labs (hLW.below (by repeat (first | exact Below.refl _ _ | apply Below.drew | refine Below.alloc ?_ (by simp) _)))) (flat_one L) (by omega) (by unfold maxLen; omega) (by omega) (by simp) _ rfl ?_; intro g1 cap1 v1 hown1 hgrow1 hat1 hlt1; simp only [Nat.zero_add, List.nil_append] at hown1 ⊢; have hBel1 : Below W.heap.size W v1 := Below.grown (by repeat (first | exact Below.refl _ _ | apply Below.drew | refine Below.alloc ?_ (by simp) _)) hgrow1 (by simp) (by intro k hk; simp [Value.ownBlock] at hk)))
      | ((refine step_append_lies _ (by rfl) (.tmp 16) (.tmp 21) _ (by rfl) W.heap.size 28 i0 (.agg #[.int .i64 0, .int .i64 0]) 2 16 Try.underlying23 hi li0 li1 li2 rfl (by decide) _ _ _ (by rfl) (hown1.alloc _) _ 1 1 [.int .i64 x, .int .i64 y] (by rfl) rfl (cell_two_new _ _ _ _) (by intro u hu; simp at hu; rcases hu with rfl | rfl <;> rfl) (by omega) (by unfold maxLen; omega) (by omega) (by have := hBel1.size; simp; omega) _ rfl ?_; intro g2 cap2 v2 hown2 hgrow2 hat2 hlt2; have hBel2 : Below W.heap.size W v2 := Below.grown (hBel1.alloc hBel1.size _) hgrow2 (by have := hBel1.size; simp; omega) (fun k hk => (hown1.lt k hk).1); have e1 : v2.cell? ⟨w1.heap.size + 1, 1, none⟩ = some (.slice (some ⟨g, 0, none⟩) n cp) := (hBel2.cell (p := ⟨w1.heap.size + 1, 1, none⟩) (by show w1.heap.size + 1 < _; omega)).trans d1; have ef : v2.frozen? ⟨w1.heap.size + 1, 1, none⟩ = false := (hBel2.frozen (p := ⟨w1.heap.size + 1, 1, none⟩) (by show w1.heap.size + 1 < _; omega)).trans df; have m1 := (hBel2.cell (p := ⟨w1.heap.size, 1, none⟩) (by show w1.heap.size < _; omega)).trans c1; have m2 := (hBel2.cell (p := ⟨g, 0, none⟩) hgW).trans l0; have m3 := (hBel2.cell (p := ⟨g, 1, none⟩) hgW).trans l1; have n1 := fun u => (far _ u ⟨w1.heap.size, 1, none⟩ hne1).trans m1; have n2 := fun u => (far _ u ⟨g, 0, none⟩ hgne).trans m2; have n3 := fun u => (far _ u ⟨g, 1, none⟩ hgne).trans m3))
      | ((refine step_append_lies _ (by rfl) (.tmp 16) (.tmp 21) _ (by rfl) W.heap.size 28 i0 (.agg #[.int .i64 0, .int .i64 0]) 2 16 Try.underlying23 hi li0 li1 li2 rfl (by decide) _ _ _ (by rfl) hown1 ⟨w1.heap.size + 2, 0, none⟩ 1 1 [.int .i64 x, .int .i64 y] (by rfl) rfl (fun j u hj => hgrow1.cell (by first | exact hnewA j u hj | exact hnewB j u hj) (by simp [Value.ownBlock])) (by intro u hu; simp at hu; rcases hu with rfl | rfl <;> rfl) (by omega) (by unfold maxLen; omega) (by omega) hBel1.size _ rfl ?_; intro g2 cap2 v2 hown2 hgrow2 hat2 hlt2; have hBel2 : Below W.heap.size W v2 := Below.grown hBel1 hgrow2 hBel1.size (fun k hk => (hown1.lt k hk).1); have e1 : v2.cell? ⟨w1.heap.size + 1, 1, none⟩ = some (.slice (some ⟨g, 0, none⟩) n cp) := (hBel2.cell (p := ⟨w1.heap.size + 1, 1, none⟩) (by show w1.heap.size + 1 < _; omega)).trans d1; have ef : v2.frozen? ⟨w1.heap.size + 1, 1, none⟩ = false := (hBel2.frozen (p := ⟨w1.heap.size + 1, 1, none⟩) (by show w1.heap.size + 1 < _; omega)).trans df; have m1 := (hBel2.cell (p := ⟨w1.heap.size, 1, none⟩) (by show w1.heap.size < _; omega)).trans c1; have m2 := (hBel2.cell (p := ⟨g, 0, none⟩) hgW).trans l0; have m3 := (hBel2.cell (p := ⟨g, 1, none⟩) hgW).trans l1; have n1 := fun u => (far _ u ⟨w1.heap.size, 1, none⟩ hne1).trans m1; have n2 := fun u => (far _ u ⟨g, 0, none⟩ hgne).trans m2; have n3 := fun u => (far _ u ⟨g, 1, none⟩ hgne).trans m3)))
  all_goals
    have hfin := ownsRow_setCell_below hown2 (a := ⟨w1.heap.size + 1, 1, none⟩) (by show w1.heap.size + 1 < W.heap.size; omega) (.slice (some ⟨g2, 0, none⟩) (n + 1) cap2)
    have hBf : Below W.heap.size W v2 := hBel2
    have x0 := (hBel2.cell (p := ⟨w1.heap.size, 0, none⟩) (by show w1.heap.size < _; omega)).trans c0
    have x2 := (hBel2.cell (p := ⟨w1.heap.size, 2, none⟩) (by show w1.heap.size < _; omega)).trans c2
    have y0 := (hBel2.cell (p := ⟨w1.heap.size + 1, 0, none⟩) (by show w1.heap.size + 1 < _; omega)).trans d0
    have y2 := (hBel2.cell (p := ⟨w1.heap.size + 1, 2, none⟩) (by show w1.heap.size + 1 < _; omega)).trans d2
    have hLf : Labs (v2.setCell ⟨w1.heap.size + 1, 1, none⟩ (.slice (some ⟨g2, 0, none⟩) (n + 1) cap2)) g 0 L := by
      have hLv := hLW.below hBel2
      refine ⟨by simpa using hLv.1, fun i hi => ?_⟩
      rw [far _ _ _ (by exact hgne), far _ _ _ (by exact hgne)]
      exact hLv.2 i hi
    have hBx : Below w.heap.size w (v2.setCell ⟨w1.heap.size + 1, 1, none⟩ (.slice (some ⟨g2, 0, none⟩) (n + 1) cap2)) := (hB0.trans (hBel2.mono hB0.size)).setCell (by have := hb1.size; show w.heap.size ≤ w1.heap.size + 1; omega) _
    have zz : w1.heap.size + 1 < (v2.setCell ⟨w1.heap.size + 1, 1, none⟩ (.slice (some ⟨g2, 0, none⟩) (n + 1) cap2)).heap.size := by have := hBel2.size; simp; omega
    have w0' : (v2.setCell ⟨w1.heap.size + 1, 1, none⟩ (.slice (some ⟨g2, 0, none⟩) (n + 1) cap2)).cell? ⟨w1.heap.size, 0, none⟩ = some (.int .i64 S) := (far _ _ ⟨w1.heap.size, 0, none⟩ hne1).trans x0
    have w1' : (v2.setCell ⟨w1.heap.size + 1, 1, none⟩ (.slice (some ⟨g2, 0, none⟩) (n + 1) cap2)).cell? ⟨w1.heap.size, 1, none⟩ = some (.slice (some ⟨g, 0, none⟩) n cp) := n1 _
    have w2' : (v2.setCell ⟨w1.heap.size + 1, 1, none⟩ (.slice (some ⟨g2, 0, none⟩) (n + 1) cap2)).cell? ⟨w1.heap.size, 2, none⟩ = some (.int .i64 P) := (far _ _ ⟨w1.heap.size, 2, none⟩ hne1).trans x2
    have w3' : (v2.setCell ⟨w1.heap.size + 1, 1, none⟩ (.slice (some ⟨g2, 0, none⟩) (n + 1) cap2)).cell? ⟨w1.heap.size + 1, 0, none⟩ = some (.int .i64 S) := by go_simp
    have w4' : (v2.setCell ⟨w1.heap.size + 1, 1, none⟩ (.slice (some ⟨g2, 0, none⟩) (n + 1) cap2)).cell? ⟨w1.heap.size + 1, 1, none⟩ = some (.slice (some ⟨g2, 0, none⟩) (n + 1) cap2) := by go_simp
    have w5' : (v2.setCell ⟨w1.heap.size + 1, 1, none⟩ (.slice (some ⟨g2, 0, none⟩) (n + 1) cap2)).cell? ⟨w1.heap.size + 1, 2, none⟩ = some (.int .i64 P) := by go_simp
    obtain ⟨V, hV⟩ : ∃ V : World, V = v2.setCell ⟨w1.heap.size + 1, 1, none⟩ (.slice (some ⟨g2, 0, none⟩) (n + 1) cap2) := ⟨_, rfl⟩
    rw [← hV] at hfin hLf hBx zz w0' w1' w2' w3' w4' w5' ⊢
    have i1 : IsLabs V (some ⟨g, 0, none⟩) n cp L := ⟨EN.out.symm, hg2, hg3, fun _ => ⟨g, 0, rfl, hLf⟩⟩
    have i2 : IsLabs V (some ⟨g2, 0, none⟩) (n + 1) cap2 (L ++ [(x, y)]) := by
      have e : (L ++ [(x, y)]).length = n + 1 := by simp [← EN.out]
      have hf := hfin
      rw [← flat_append, ← e] at hf
      have hr := hf.2
      refine ⟨e, ?_, ?_, fun _ => ⟨g2, 0, rfl, labs_of_own hf⟩⟩
      · rcases hr with ⟨hh, _⟩ | ⟨_, _, _, hh, _, _, hh2, hh3, _⟩
        · simp at hh
        · simp at hh; omega
      · rcases hr with ⟨hh, _⟩ | ⟨_, _, _, hh, _, _, hh2, hh3, _⟩
        · simp at hh
        · simp at hh; omega
    clear hV hfin hown2 hgrow2 hBel2 hBel1 hown1 hgrow1 e1 ef m1 m2 m3 n1 n2 n3 x0 x2 y0 y2 far hnewA hnewB hLf
    go_wp2_with (first
      | (go_at_call 9; have _t := t1; refine (check_any S P _ n cp L _ i1).mono ?_; rintro e u1 ⟨rfl, hu1⟩; clear t1
         obtain ⟨hc1, hf1⟩ := bcell hu1
         have i3 := i2.below hu1
         have hBu := hBx.trans (hu1.mono hBx.size)
         have zu : w1.heap.size + 1 < u1.heap.size := by have := hu1.size; omega)
      | (go_at_call 9; have _t := t2; refine (check_any S P _ (n + 1) cap2 (L ++ [(x, y)]) _ i3).mono ?_; rintro e u2 ⟨rfl, hu2⟩; clear t2
         have hBv := hBu.trans (hu2.mono hBu.size))
      | (go_at_call 9; refine (check_any 0 0 none 0 0 [] _ ⟨rfl, Nat.le_refl _, Nat.zero_le _, fun hh => absurd hh (by omega)⟩).mono ?_; rintro e u3 ⟨rfl, hu3⟩
         have hBz := hBv.trans (hu3.mono hBv.size)))
    go_ret
    exact ⟨rfl, hBz⟩
end Go.Proofs.Ytppnhcnkcbhbiaa
