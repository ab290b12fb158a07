/- The walk of the law PurgeTwice: at any raw numbers it returns true and leaves what was in memory. -/
import Derived.Test.YtppnhcnkcbhbiaaPurgeMoreWalk
import Derived.Deep.RegionHeld3
import Derived.LoopTactic
namespace Go.Proofs.Ytppnhcnkcbhbiaa
open Go.ChangeShapes Go.WideShapes Go.ChangeAt Go.RowKit
set_option linter.unusedVariables false

theorem purged_label {ls : List (Int × Int)} {l : Int} {n : Nat} {xs ys : List AV} (h : ys.map AV.bare = purgeF ls l xs) (hx : ∀ x ∈ xs, Fine n x) : ∀ y ∈ ys, 0 ≤ y.label ∧ y.label < (n : Int) := by
  intro y hy
  have hm : y.bare ∈ purgeF ls l xs := by rw [← h]; exact List.mem_map_of_mem hy
  unfold purgeF at hm
  obtain ⟨a, ha, hb⟩ := List.mem_flatMap.1 hm
  unfold purgeStep at hb
  split at hb
  · simp at hb
  · simp at hb
    have e2 : y.label = a.label := by have := congrArg AV.label hb; simpa [AV.bare] using this
    rw [e2]
    exact ⟨(hx a ha).1, (hx a ha).2.1⟩

theorem purge_no (s p : Int) (ad : Option Addr) (len cap : Nat) (ls : List (Int × Int)) (l : Int) (w : World) (h : IsLabs w ad len cap ls) (hc : cfgFault s ls p = 0) (hl : plc l ls.length = false) :
    Calls Try.prog 13 #[.agg #[.int .i64 s, .slice ad len cap, .int .i64 p], .int .i64 l, .slice none 0 0] w fun e w' => ∃ (ao : Option Addr) (m cp : Nat), e = .returned (.tuple #[.slice ao m cp, .int .i64 6]) ∧ Below w.heap.size w w' := by
  refine (purge_any s p ad len cap ls l none 0 0 [] w h ⟨rfl, Nat.le_refl _, Nat.zero_le _, fun hh => absurd hh (by simp)⟩ (by omega) (fun i => by simp [List.getD, default])).mono ?_
  rintro e w' ⟨ao, cp, ys, rfl, hys, hm, hb⟩
  have pe : purgeErr s ls p l = 6 := by simp [purgeErr, hc, hl]
  rw [pe]
  exact ⟨ao, ys.length, cp, rfl, hb⟩

set_option maxHeartbeats 4000000 in
set_option maxRecDepth 100000 in
theorem purgeTwice_walk (s : Int) (a : Option Addr) (len cap : Nat) (zs : List Int) (p : Int) (aa : Option Addr) (alen acap : Nat) (rs : List RV) (k1 : Int) (w : World) (hs : (Lit.int .i64 s).wf = true) (h : IsInts w a len cap zs) (hp : (Lit.int .i64 p).wf = true)
    (hr : IsRaws w aa alen acap rs) (hk1 : (Lit.int .i64 k1).wf = true) :
    Calls Try.prog 6 #[.int .i64 s, .slice a len cap, .int .i64 p, .slice aa alen acap, .int .i64 k1] w fun e w' => e = .returned (.bool true) ∧ Below w.heap.size w w' := by
  have hs' := i64_bd hs
  have hp' := i64_bd hp
  have hk1' := i64_bd hk1
  have bs := cfgS_bd s
  have bp := cfgP_bd p
  have hg := good_labs zs
  have hCfg := fun w' h' => config_any s p a len cap zs w' hs' hp' h'
  obtain ⟨S, eS⟩ : ∃ S, S = cfgS s := ⟨_, rfl⟩
  obtain ⟨P, eP⟩ : ∃ P, P = cfgP p := ⟨_, rfl⟩
  obtain ⟨L, eL⟩ : ∃ L, L = cfgLabs zs := ⟨_, rfl⟩
  rw [← eS] at bs
  rw [← eP] at bp
  rw [← eL] at hg
  rw [← eS, ← eP, ← eL] at hCfg
  clear eS eP eL
  obtain ⟨hgood, hn1⟩ := hg
  have hn4 := hgood.len
  have hF0 : cfgFault S L P = 0 := cfgFault_good hgood hn1 (by omega) (by omega)
  obtain ⟨n, en⟩ : ∃ n, n = L.length := ⟨_, rfl⟩
  rw [← en] at hn1 hn4 hCfg
  have EN : Hid (n = L.length) := en
  clear en
  have zx := pk_bd k1 (n : Int) (by omega)
  have plx : plc (pk k1 n) L.length = true := by rw [← EN.out]; simp [plc]; omega
  have pln : plc (n : Int) L.length = false := by rw [← EN.out]; simp [plc]
  go_enter Try.func6, Try.ntmps6
  go_upto_region 2 with (go_at_call 8; refine (hCfg _ h).mono ?_; rintro e w1 ⟨g, cp, rfl, hg1, hg2, hg3, hg4, hb1⟩)
  obtain ⟨W, hW⟩ : ∃ W : World, W = w1.alloc (.cells #[.int .i64 S, .slice (some ⟨g, 0, none⟩) n cp, .int .i64 P] 25) := ⟨_, rfl⟩
  have zW : w1.heap.size < W.heap.size := by rw [hW]; simp
  have c0 : W.cell? ⟨w1.heap.size, 0, none⟩ = some (.int .i64 S) := by rw [hW]; go_simp
  have c1 : W.cell? ⟨w1.heap.size, 1, none⟩ = some (.slice (some ⟨g, 0, none⟩) n cp) := by rw [hW]; go_simp
  have c2 : W.cell? ⟨w1.heap.size, 2, none⟩ = some (.int .i64 P) := by rw [hW]; go_simp
  have hBW : Below w1.heap.size w1 W := by rw [hW]; exact (Below.refl _ _).alloc (Nat.le_refl _) _
  rw [← hW]
  clear hW
  have hLW : IsLabs W (some ⟨g, 0, none⟩) n cp L := ⟨EN.out.symm, by have := EN.out; omega, hg3, fun _ => ⟨g, 0, rfl, hg4.below hBW⟩⟩
  have hB0 : Below w.heap.size w W := hb1.trans (hBW.mono hb1.size)
  have hrW := hr.below hB0
  clear hg4 hBW hg1 hg2 hg3
  have KC : Hid (∀ (V : World), Below W.heap.size W V → V.cell? ⟨w1.heap.size, 0, none⟩ = some (.int .i64 S) ∧ V.cell? ⟨w1.heap.size, 1, none⟩ = some (.slice (some ⟨g, 0, none⟩) n cp) ∧ V.cell? ⟨w1.heap.size, 2, none⟩ = some (.int .i64 P)) := fun V hV =>
    ⟨(hV.cell (p := ⟨w1.heap.size, 0, none⟩) zW).trans c0, (hV.cell (p := ⟨w1.heap.size, 1, none⟩) zW).trans c1, (hV.cell (p := ⟨w1.heap.size, 2, none⟩) zW).trans c2⟩
  go_upto_region 3 with (go_at_call 10; refine (picked_any _ _ _ (by assumption) (by omega) (by omega)).mono ?_; rintro e u1 ⟨rfl, hu1⟩; rw [hu1]; clear hu1)
  obtain ⟨x, ex⟩ : ∃ x, x = pk k1 n := ⟨_, rfl⟩
  rw [← ex] at plx ⊢
  clear ex zx
  have hD : Below W.heap.size W W.drew := (Below.refl _ _).drew
  have hrD := hrW.below hD
  go_cut [13, 14] (fun s13 s14 wc => ∃ (ao5 : Option Addr) (m5 cp5 : Nat) (ys ys5 : List AV), s13 = .slice ao5 m5 cp5 ∧ s14 = .int .i64 0 ∧ (∀ y ∈ ys, Fine n y) ∧ IsActs wc ao5 m5 cp5 ys5 ∧ Hid (m5 = ys5.length) ∧ Hid (ys5.map AV.bare = purgeF L x ys) ∧ m5 ≤ 32 ∧ (∀ y ∈ ys5, y.keep.length ≤ 4) ∧ Below W.heap.size W wc)
  case first =>
    go_region_held3 (fun w' => w'.cell? ⟨w1.heap.size, 0, none⟩ = some (.int .i64 S) ∧ w'.cell? ⟨w1.heap.size, 1, none⟩ = some (.slice (some ⟨g, 0, none⟩) n cp) ∧ w'.cell? ⟨w1.heap.size, 2, none⟩ = some (.int .i64 P))
      (first | (go_keep; done) | exact KC.out _ hb2' | exact KC.out _ hb5')
      (first
        | ((go_at_call 12; refine (acts_any S P _ n cp aa alen acap rs _ ⟨by omega, by omega⟩ ⟨hn1, hn4⟩ hrD).mono ?_; rintro e w2 ⟨ao, ac, ys, rfl, hys, hfin, h32, hb2⟩; have hb2' : Below W.heap.size W w2 := hD.trans (hb2.mono (Nat.le_refl _)); have hsm := acts_small hys (fun y hy => (hfin y hy).2.2)))
        | ((go_at_call 13; refine (purge_good S P _ n cp L x _ _ _ ys _ (hLW.below hb2') hys hF0 plx h32 hsm).mono ?_; rintro e w5 ⟨ao5, m5, cp5, ys5, rfl, hA5, hm5, hp5, h325, hs5, hb5⟩; have hb5' : Below W.heap.size W w5 := hb2'.trans (hb5.mono hb2'.size))))
    all_goals
      go_wp2_with fail
      go_meet
      case rel => exact ⟨ao5, m5, cp5, ys, ys5, rfl, rfl, hfin, hA5, hm5, hp5, h325, hs5, hb5'⟩
  case rest =>
    obtain ⟨ao5, m5, cp5, ys, ys5, rfl, rfl, hfin, hA5, hm5, hp5, h325, hs5, hb5'⟩ := hcut
    obtain ⟨d0, d1, d2⟩ := KC.out _ hb5'
    go_upto_region 5 with (go_at_call 13; refine (purge_good S P _ n cp L x _ _ _ ys5 _ (hLW.below hb5') hA5 hF0 plx h325 hs5).mono ?_; rintro e w6 ⟨ao6, m6, cp6, ys6, rfl, hA6, hm6, hp6, h326, hs6, hb6⟩)
    have hb6' : Below W.heap.size W w6 := hb5'.trans (hb6.mono hb5'.size)
    obtain ⟨d0, d1, d2⟩ := KC.out _ hb6'
    go_upto_region 6 with (go_at_call 13; refine (purge_no S P _ n cp L _ _ (hLW.below hb6') hF0 pln).mono ?_; rintro e w7 ⟨ao7, m7, cp7, rfl, hb7⟩)
    have hb7' : Below W.heap.size W w7 := hb6'.trans (hb7.mono hb6'.size)
    have heq : Hid (ys5.map AV.bare = ys6.map AV.bare) := by
      show ys5.map AV.bare = ys6.map AV.bare
      rw [hp6.out, ← purge_bare L x ys5, hp5.out, purge_under (fun _ h => h)]
    have hle : Hid (m5 = m6) := by
      show m5 = m6
      have := congrArg List.length heq.out
      simp at this
      have h1 := hm6.out
      have h2 := hm5.out
      omega
    have hA57 := (hA5.below hb6).below hb7
    have hSm := sameActs_eq _ _ m5 m6 _ _ ys5 ys6 _ hle.out hA57 (hA6.below hb7) heq.out
    go_upto_region 8 with (go_at_call 15; refine hSm.mono ?_; rintro e w8 ⟨rfl, hb8⟩)
    have hb8' : Below W.heap.size W w8 := hb7'.trans (hb8.mono hb7'.size)
    have hA8 := hA57.below hb8
    have hlft := purge_left hp5.out
    have hlab := purged_label hp5.out hfin
    clear hSm d0 d1 d2
    go_wp2
    go_loopw [72] (fun i wr => ∃ k : Nat, k ≤ m5 ∧ i = .int .i64 k ∧ Below w8.heap.size w8 wr) (fun i _ => m5 - (intOf i).toNat)
    case atStart => exact ⟨0, by omega, rfl, Below.refl _ _⟩
    case round =>
      obtain ⟨k, hk, rfl, hb⟩ := hrel
      have hbr : Below W.heap.size W wr := hb8'.trans (hb.mono hb8'.size)
      by_cases hlt : k < m5
      · have hlt' : (k : Int) < (m5 : Int) := by omega
        obtain ⟨b, off, rfl, hAt⟩ := (hA8.below hb).2.2.2 (by omega)
        have hky : k < ys5.length := by have := hm5.out; omega
        have hcells := (hAt.2 k hky).1
        have hmem : ys5.getD k default ∈ ys5 := by
          have e : ys5.getD k default = ys5[k] := by simp [List.getD, hky]
          rw [e]
          exact List.getElem_mem _
        have hlf := hlft _ hmem
        have hlb := hlab _ hmem
        obtain ⟨y, ey⟩ : ∃ y, y = ys5.getD k default := ⟨_, rfl⟩
        rw [← ey] at hcells hlf hlb
        clear ey hmem hky
        obtain ⟨kind, site, tu, label, pick, ka, kl, kc, f0, f1, f2, f3, f4, line, keep⟩ := y
        dsimp only at hlf hlb
        have a0 := hcells 0 (by decide)
        have a1 := hcells 1 (by decide)
        have a2 := hcells 2 (by decide)
        have a3 := hcells 3 (by decide)
        have a4 := hcells 4 (by decide)
        have a5 := hcells 5 (by decide)
        have a6 := hcells 6 (by decide)
        have a7 := hcells 7 (by decide)
        have a8 := hcells 8 (by decide)
        have a9 := hcells 9 (by decide)
        have a10 := hcells 10 (by decide)
        have a11 := hcells 11 (by decide)
        simp [AV.cells] at a0 a1 a2 a3 a4 a5 a6 a7 a8 a9 a10 a11
        clear hcells
        obtain ⟨V, hV⟩ : ∃ V : World, V = wr.alloc (.cells #[.int .i64 kind, .int .i64 site, .int .i64 tu, .int .i64 label, .int .i64 pick, .slice ka kl kc, .int .i64 f0, .int .i64 f1, .int .i64 f2, .int .i64 f3, .int .i64 f4, .string line] 47) := ⟨_, rfl⟩
        have hVb : Below wr.heap.size wr V := by rw [hV]; exact (Below.refl _ _).alloc (Nat.le_refl _) _
        have v0 : V.cell? ⟨wr.heap.size, 0, none⟩ = some (.int .i64 kind) := by rw [hV]; go_simp
        have v3 : V.cell? ⟨wr.heap.size, 3, none⟩ = some (.int .i64 label) := by rw [hV]; go_simp
        have hVb' : Below W.heap.size W V := hbr.trans (hVb.mono hbr.size)
        have hV8 : Below w8.heap.size w8 V := hb.trans (hVb.mono hb.size)
        obtain ⟨d0, d1, d2⟩ := KC.out _ hVb'
        go_upto_region 11 with fail
        rw [← hV]
        clear hV
        by_cases h5 : kind = 5
        · subst h5
          go_wp2
          go_roundw
          case rel => exact ⟨k + 1, by omega, by go_num, hV8⟩
          case measure => simp [intOf]; omega
        · by_cases h7 : kind = 7
          · subst h7
            go_wp2
            go_roundw
            case rel => exact ⟨k + 1, by omega, by go_num, hV8⟩
            case measure => simp [intOf]; omega
          · by_cases h6 : kind = 6
            · subst h6
              go_wp2
              go_roundw
              case rel => exact ⟨k + 1, by omega, by go_num, hV8⟩
              case measure => simp [intOf]; omega
            · have hh := hlf (by simp [hasLab]; omega)
              have e5 : (kind == 5) = false := by simpa using h5
              have e6 : (kind == 6) = false := by simpa using h6
              have e7 : (kind == 7) = false := by simpa using h7
              have pll : plc label L.length = true := by rw [← EN.out]; simp [plc]; omega
              have hab : abv (labAtI L x).1 (labAtI L x).2 (labAtI L label).1 (labAtI L label).2 = true := by
                simpa [hid, pll] using hh
              have hSk := seen_any S P _ n cp L x label _ (hLW.below hVb') hF0 plx pll
              rw [hab] at hSk
              clear h5 h6 h7
              go_wp2_with (go_at_call 14; refine hSk.mono ?_; rintro e w9 ⟨rfl, hb9⟩)
              all_goals
                go_roundw
                case rel => first | exact ⟨k + 1, by omega, by go_num, hV8⟩ | exact ⟨k + 1, by omega, by go_num, hV8.trans (hb9.mono hV8.size)⟩
                case measure => simp [intOf]; omega
      · have hlt' : ¬ (k : Int) < (m5 : Int) := by omega
        go_wp2
        go_ret
        exact ⟨rfl, hB0.trans (hbr.mono hB0.size)⟩
end Go.Proofs.Ytppnhcnkcbhbiaa
