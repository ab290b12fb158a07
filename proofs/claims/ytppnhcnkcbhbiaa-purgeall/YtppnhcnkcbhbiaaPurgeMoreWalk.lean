/- The walk of the law PurgeMore: at any raw numbers it returns true and leaves what was in memory. -/
import Derived.Test.YtppnhcnkcbhbiaaConfig
import Derived.Test.YtppnhcnkcbhbiaaActs
import Derived.Test.YtppnhcnkcbhbiaaSeen
import Derived.Test.YtppnhcnkcbhbiaaSameK
import Derived.Test.YtppnhcnkcbhbiaaPurgePlain
namespace Go.Proofs.Ytppnhcnkcbhbiaa
open Go.ChangeShapes Go.WideShapes Go.ChangeAt Go.RowKit
set_option linter.unusedVariables false

theorem abv_same {l c : Int} (hc : 0 ≤ c ∧ c ≤ 3) : abv l c l c = true := by
  obtain ⟨x, rfl⟩ := four_k c hc
  rw [abv_iff_k]
  refine ⟨Int.le_refl _, ?_⟩
  revert x
  decide

theorem sameActs_eq (a b : Option Addr) (n m cap cap' : Nat) (xs ys : List AV) (w : World) (hnm : n = m) (h : IsActs w a n cap xs) (h' : IsActs w b m cap' ys) (hs : xs.map AV.bare = ys.map AV.bare) :
    Calls Try.prog 15 #[.slice a n cap, .slice b m cap'] w fun e w' => e = .returned (.bool true) ∧ Below w.heap.size w w' := by
  subst hnm
  exact sameActs_any a b n cap cap' xs ys w h h' hs

/-- Purge under a good config. -/
theorem purge_good (s p : Int) (ad : Option Addr) (len cap : Nat) (ls : List (Int × Int)) (l : Int) (aa : Option Addr) (alen acap : Nat) (xs : List AV) (w : World) (h : IsLabs w ad len cap ls) (hx : IsActs w aa alen acap xs)
    (hc : cfgFault s ls p = 0) (hl : plc l ls.length = true) (h32 : alen ≤ 32) (hk : ∀ y ∈ xs, y.keep.length ≤ 4) :
    Calls Try.prog 13 #[.agg #[.int .i64 s, .slice ad len cap, .int .i64 p], .int .i64 l, .slice aa alen acap] w fun e w' => ∃ (ao : Option Addr) (m cp : Nat) (ys : List AV),
      e = .returned (.tuple #[.slice ao m cp, .int .i64 0]) ∧ IsActs w' ao m cp ys ∧ Hid (m = ys.length) ∧ Hid (ys.map AV.bare = purgeF ls l xs) ∧ m ≤ 32 ∧ (∀ y ∈ ys, y.keep.length ≤ 4) ∧ Below w.heap.size w w' := by
  refine (purge_any s p ad len cap ls l aa alen acap xs w h hx (by omega) (small_bytes hk)).mono ?_
  rintro e w' ⟨ao, cp, ys, rfl, hys, hm, hb⟩
  have pe : purgeErr s ls p l = 0 := by simp [purgeErr, hc, hl]
  have pr : purgeR s ls p l xs = purgeF ls l xs := by simp [purgeR, pe]
  rw [pr] at hm
  rw [pe]
  have hlen := purged_len hm
  have := hx.1
  exact ⟨ao, ys.length, cp, ys, rfl, hys, rfl, hm, by omega, purged_small hm hk, hb⟩

set_option maxHeartbeats 4000000 in
theorem purgeMore_walk (s : Int) (a : Option Addr) (len cap : Nat) (zs : List Int) (p : Int) (aa : Option Addr) (alen acap : Nat) (rs : List RV) (k1 k2 : Int) (w : World) (hs : (Lit.int .i64 s).wf = true) (h : IsInts w a len cap zs) (hp : (Lit.int .i64 p).wf = true)
    (hr : IsRaws w aa alen acap rs) (hk1 : (Lit.int .i64 k1).wf = true) (hk2 : (Lit.int .i64 k2).wf = true) :
    Calls Try.prog 7 #[.int .i64 s, .slice a len cap, .int .i64 p, .slice aa alen acap, .int .i64 k1, .int .i64 k2] w fun e w' => e = .returned (.bool true) ∧ Below w.heap.size w w' := by
  have hs' := i64_bd hs
  have hp' := i64_bd hp
  have hk1' := i64_bd hk1
  have hk2' := i64_bd hk2
  have bs := cfgS_bd s
  have bp := cfgP_bd p
  have hg := good_labs zs
  have hCfg := fun w' h' => config_any s p a len cap zs w' hs' hp' h'
  obtain ⟨S, eS⟩ : ∃ S, S = cfgS s := ⟨_, rfl⟩
  obtain ⟨P, eP⟩ : ∃ P, P = cfgP p := ⟨_, rfl⟩
  obtain ⟨L, eL⟩ : ∃ L, L = cfgLabs zs := ⟨_, rfl⟩
  rw [← eS] at bs
  rw [← eP] at bp
  rw [← eL] at hg
  rw [← eS, ← eP, ← eL] at hCfg
  clear eS eP eL
  obtain ⟨hgood, hn1⟩ := hg
  have hn4 := hgood.len
  have hF0 : cfgFault S L P = 0 := cfgFault_good hgood hn1 (by omega) (by omega)
  obtain ⟨n, en⟩ : ∃ n, n = L.length := ⟨_, rfl⟩
  rw [← en] at hn1 hn4 hCfg
  have EN : Hid (n = L.length) := en
  clear en
  have zx := pk_bd k1 (n : Int) (by omega)
  have zy := pk_bd k2 (n : Int) (by omega)
  have plx : plc (pk k1 n) L.length = true := by rw [← EN.out]; simp [plc]; omega
  have ply : plc (pk k2 n) L.length = true := by rw [← EN.out]; simp [plc]; omega
  go_enter Try.func7, Try.ntmps7
  go_upto_region 2 with (go_at_call 8; refine (hCfg _ h).mono ?_; rintro e w1 ⟨g, cp, rfl, hg1, hg2, hg3, hg4, hb1⟩)
  obtain ⟨W, hW⟩ : ∃ W : World, W = w1.alloc (.cells #[.int .i64 S, .slice (some ⟨g, 0, none⟩) n cp, .int .i64 P] 25) := ⟨_, rfl⟩
  have zW : w1.heap.size < W.heap.size := by rw [hW]; simp
  have c0 : W.cell? ⟨w1.heap.size, 0, none⟩ = some (.int .i64 S) := by rw [hW]; go_simp
  have c1 : W.cell? ⟨w1.heap.size, 1, none⟩ = some (.slice (some ⟨g, 0, none⟩) n cp) := by rw [hW]; go_simp
  have c2 : W.cell? ⟨w1.heap.size, 2, none⟩ = some (.int .i64 P) := by rw [hW]; go_simp
  have hBW : Below w1.heap.size w1 W := by rw [hW]; exact (Below.refl _ _).alloc (Nat.le_refl _) _
  rw [← hW]
  clear hW
  have hLW : IsLabs W (some ⟨g, 0, none⟩) n cp L := ⟨EN.out.symm, by have := EN.out; omega, hg3, fun _ => ⟨g, 0, rfl, hg4.below hBW⟩⟩
  have hB0 : Below w.heap.size w W := hb1.trans (hBW.mono hb1.size)
  have hrW := hr.below hB0
  clear hg4 hBW hg1 hg2 hg3
  have keepc : ∀ (V : World), Below W.heap.size W V → V.cell? ⟨w1.heap.size, 0, none⟩ = some (.int .i64 S) ∧ V.cell? ⟨w1.heap.size, 1, none⟩ = some (.slice (some ⟨g, 0, none⟩) n cp) ∧ V.cell? ⟨w1.heap.size, 2, none⟩ = some (.int .i64 P) := fun V hV =>
    ⟨(hV.cell (p := ⟨w1.heap.size, 0, none⟩) zW).trans c0, (hV.cell (p := ⟨w1.heap.size, 1, none⟩) zW).trans c1, (hV.cell (p := ⟨w1.heap.size, 2, none⟩) zW).trans c2⟩
  have KC : Hid (∀ (V : World), Below W.heap.size W V → V.cell? ⟨w1.heap.size, 0, none⟩ = some (.int .i64 S) ∧ V.cell? ⟨w1.heap.size, 1, none⟩ = some (.slice (some ⟨g, 0, none⟩) n cp) ∧ V.cell? ⟨w1.heap.size, 2, none⟩ = some (.int .i64 P)) := keepc
  clear keepc
  go_upto_region 4 with (go_at_call 10; refine (picked_any _ _ _ (by assumption) (by omega) (by omega)).mono ?_; rintro e u1 ⟨rfl, hu1⟩; rw [hu1]; clear hu1)
  go_upto_region 5 with (go_at_call 12; refine (acts_any S P _ n cp aa alen acap rs _ ⟨by omega, by omega⟩ ⟨hn1, hn4⟩ hrW).mono ?_; rintro e w2 ⟨ao, ac, ys, rfl, hys, hfin, h32, hb2⟩)
  obtain ⟨x, ex⟩ : ∃ x, x = pk k1 n := ⟨_, rfl⟩
  obtain ⟨y, ey⟩ : ∃ y, y = pk k2 n := ⟨_, rfl⟩
  rw [← ex] at plx ⊢
  rw [← ey] at ply ⊢
  clear ex ey zx zy
  obtain ⟨m0, em0⟩ : ∃ m0, m0 = ys.length := ⟨_, rfl⟩
  rw [← em0] at hys h32 ⊢
  clear em0
  have hsm := acts_small hys (fun y hy => (hfin y hy).2.2)
  have hL2 := hLW.below hb2
  obtain ⟨d0, d1, d2⟩ := KC.out _ hb2
  have hxx : abv (labAtI L x).1 (labAtI L x).2 (labAtI L x).1 (labAtI L x).2 = true := abv_same (labAtI_small hgood x)
  have hSx := seen_any S P _ n cp L x x _ hL2 hF0 plx plx
  rw [hxx] at hSx
  go_upto_region 7 with (go_at_call 14; refine hSx.mono ?_; rintro e w3 ⟨rfl, hb3⟩)
  have hb3' : Below W.heap.size W w3 := hb2.trans (hb3.mono hb2.size)
  obtain ⟨d0, d1, d2⟩ := KC.out _ hb3'
  have hL3 := hLW.below hb3'
  have hSy := seen_any S P _ n cp L x y _ hL3 hF0 plx ply
  by_cases hxy : abv (labAtI L x).1 (labAtI L x).2 (labAtI L y).1 (labAtI L y).2 = true
  · rw [hxy] at hSy
    have hun := hid_under hgood hxy
    go_upto_region 9 with (go_at_call 14; refine hSy.mono ?_; rintro e w4 ⟨rfl, hb4⟩)
    have hb4' : Below W.heap.size W w4 := hb3'.trans (hb4.mono hb3'.size)
    obtain ⟨d0, d1, d2⟩ := KC.out _ hb4'
    have hy4 := (hys.below hb3).below hb4
    go_upto_region 10 with (go_at_call 13; refine (purge_good S P _ n cp L x _ _ _ ys _ (hLW.below hb4') hy4 hF0 plx h32 hsm).mono ?_; rintro e w5 ⟨ao5, m5, cp5, ys5, rfl, hA5, hm5, hp5, h325, hs5, hb5⟩)
    have hb5' : Below W.heap.size W w5 := hb4'.trans (hb5.mono hb4'.size)
    obtain ⟨d0, d1, d2⟩ := KC.out _ hb5'
    have hy5 := hy4.below hb5
    go_upto_region 11 with (go_at_call 13; refine (purge_good S P _ n cp L y _ _ _ ys _ (hLW.below hb5') hy5 hF0 ply h32 hsm).mono ?_; rintro e w6 ⟨ao6, m6, cp6, ys6, rfl, hA6, hm6, hp6, h326, hs6, hb6⟩)
    have hb6' : Below W.heap.size W w6 := hb5'.trans (hb6.mono hb5'.size)
    obtain ⟨d0, d1, d2⟩ := KC.out _ hb6'
    have hA5' := hA5.below hb6
    go_upto_region 12 with (go_at_call 13; refine (purge_good S P _ n cp L y _ _ _ ys5 _ (hLW.below hb6') hA5' hF0 ply h325 hs5).mono ?_; rintro e w7 ⟨ao7, m7, cp7, ys7, rfl, hA7, hm7, hp7, h327, hs7, hb7⟩)
    have hb7' : Below W.heap.size W w7 := hb6'.trans (hb7.mono hb6'.size)
    have heq : Hid (ys6.map AV.bare = ys7.map AV.bare) := by
      show ys6.map AV.bare = ys7.map AV.bare
      rw [hp6.out, hp7.out, ← purge_bare L y ys5, hp5.out, purge_under hun]
    have hle : Hid (m6 = m7) := by
      show m6 = m7
      have := congrArg List.length heq.out
      simp at this
      have h1 := hm6.out
      have h2 := hm7.out
      omega
    have hSm := sameActs_eq _ _ m6 m7 _ _ ys6 ys7 _ hle.out (hA6.below hb7) hA7 heq.out
    go_wp2_with (go_at_call 15; refine hSm.mono ?_; rintro e w8 ⟨rfl, hb8⟩)
    go_ret
    exact ⟨rfl, hB0.trans ((hb7'.trans (hb8.mono hb7'.size)).mono hB0.size)⟩
  · rw [Bool.not_eq_true] at hxy
    rw [hxy] at hSy
    go_wp2_with (go_at_call 14; refine hSy.mono ?_; rintro e w4 ⟨rfl, hb4⟩)
    go_ret
    exact ⟨rfl, hB0.trans ((hb3'.trans (hb4.mono hb3'.size)).mono hB0.size)⟩
end Go.Proofs.Ytppnhcnkcbhbiaa
