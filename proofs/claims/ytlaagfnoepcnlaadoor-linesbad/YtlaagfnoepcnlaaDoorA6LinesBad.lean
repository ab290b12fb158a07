/- The contract of the raw Config: sites, labels each once, patience; what was in memory stays, and the labels lie in new memory. -/
import Derived.Test.YtlaagfnoepcnlaaDoorA4LinesBad
import Derived.Test.YtlaagfnoepcnlaaDoorA5LinesBad
import Derived.LoopTactic
import Derived.WalkSmall
namespace Go.Proofs.YtlaagfnoepcnlaaDoor
open Go.ChangeShapes Go.WideShapes Go.ChangeAt Go.RowKit
set_option linter.unusedVariables false

/-- The config that is being made: its cells, the result's block, the labels' row; below B all is as it was. -/
structure CfgAt (B : Nat) (w wr : World) (S P : Int) (ao : Option Addr) (cp : Nat) (ls : List (Int × Int)) : Prop where
  c0 : wr.cell? ⟨B + 1, 0, none⟩ = some (.int .i64 S)
  c1 : wr.cell? ⟨B + 1, 1, none⟩ = some (.slice ao ls.length cp)
  c2 : wr.cell? ⟨B + 1, 2, none⟩ = some (.int .i64 P)
  f1 : wr.frozen? ⟨B + 1, 1, none⟩ = false
  blk : wr.heap[B]? = some (.cells #[.int .i64 0, .slice none 0 0, .int .i64 0] 24 (0, 0))
  lt : B + 1 < wr.heap.size
  own : wr.ownsRow (B + 2) 70 2 (.slice ao ls.length cp) ls.length (flat ls)
  below : Below B w wr

theorem CfgAt.mono {B : Nat} {w wr wr' : World} {S P : Int} {ao : Option Addr} {cp : Nat} {ls : List (Int × Int)} (h : CfgAt B w wr S P ao cp ls) (hb : Below wr.heap.size wr wr') : CfgAt B w wr' S P ao cp ls := by
  have hl := h.lt
  refine ⟨?_, ?_, ?_, ?_, ?_, Nat.lt_of_lt_of_le hl hb.size, own_below h.own hb, h.below.trans (hb.mono (by omega))⟩
  · rw [hb.cell (p := ⟨B + 1, 0, none⟩) hl]; exact h.c0
  · rw [hb.cell (p := ⟨B + 1, 1, none⟩) hl]; exact h.c1
  · rw [hb.cell (p := ⟨B + 1, 2, none⟩) hl]; exact h.c2
  · rw [hb.frozen (p := ⟨B + 1, 1, none⟩) hl]; exact h.f1
  · rw [hb.block B (by omega)]; exact h.blk

theorem labInfo : (Tryd.prog.info? 70).map (fun i => (i.zero, i.size, i.bytes)) = some (some (.agg #[.int .i64 0, .int .i64 0]), 2, 16) := by kernel_rfl

theorem cfgAt_start (w : World) (S P : Int) : CfgAt w.heap.size w ((w.alloc (.cells #[.int .i64 0, .slice none 0 0, .int .i64 0] 24)).alloc (.cells #[.int .i64 S, .slice none 0 0, .int .i64 P] 24)) S P none 0 [] := by
  refine ⟨by go_simp, by go_simp, by go_simp, by go_simp, ?_, by simp, World.ownsRow_nil _ _ _ _, ((Below.refl _ _).alloc (Nat.le_refl _) _).alloc (by simp) _⟩
  show ((w.heap.push _).push _)[w.heap.size]? = _
  simp only [Array.getElem?_push, Array.size_push]
  rw [if_neg (by omega), if_pos trivial]

theorem CfgAt.labs {B : Nat} {w wr : World} {S P : Int} {ao : Option Addr} {cp : Nat} {ls : List (Int × Int)} (h : CfgAt B w wr S P ao cp ls) (hp : 0 < ls.length) : ∃ g, ao = some ⟨g, 0, none⟩ ∧ B + 2 ≤ g ∧ Labs wr g 0 ls := by
  have ho := h.own
  rcases ho.2 with ⟨_, hn⟩ | ⟨g, cap, cur, hv, hb, _⟩
  · omega
  · simp at hv
    obtain ⟨rfl, rfl⟩ := hv
    exact ⟨g, rfl, hb, labs_of_own ho⟩

theorem CfgAt.room {B : Nat} {w wr : World} {S P : Int} {ao : Option Addr} {cp : Nat} {ls : List (Int × Int)} (h : CfgAt B w wr S P ao cp ls) : ls.length ≤ cp ∧ cp ≤ maxLen := by
  have ho := h.own
  rcases ho.2 with ⟨hv, hn⟩ | ⟨g, cap, cur, hv, hb, _, h1, h2, _⟩
  · simp at hv
    rw [hv.2.2]
    exact ⟨by omega, by unfold maxLen; omega⟩
  · simp at hv
    obtain ⟨rfl, rfl⟩ := hv
    exact ⟨h1, h2⟩

/-- A label more: behind the append and the store. -/
theorem CfgAt.push {B : Nat} {w wr w2 : World} {S P : Int} {ao : Option Addr} {cp g cp' : Nat} {ls : List (Int × Int)} {x y : Int} (h : CfgAt B w wr S P ao cp ls)
    (hown : w2.ownsRow (B + 2) 70 2 (.slice (some ⟨g, 0, none⟩) (ls.length + 1) cp') (ls.length + 1) (flat ls ++ [.int .i64 x, .int .i64 y]))
    (hg : wr.grownBy w2 (Value.slice ao ls.length cp).ownBlock) :
    CfgAt B w (w2.setCell ⟨B + 1, 1, none⟩ (.slice (some ⟨g, 0, none⟩) (ls.length + 1) cp')) S P (some ⟨g, 0, none⟩) cp' (ls ++ [(x, y)]) := by
  have hl := h.lt
  have hne : ∀ k, k < B + 2 → some k ≠ (Value.slice ao ls.length cp).ownBlock := by
    intro k hk e
    have := (h.own.lt k e.symm).1
    omega
  have hb1 := hg.block (B + 1) hl (hne _ (by omega))
  have hb0 := hg.block B (by omega) (hne _ (by omega))
  have k0 : w2.cell? ⟨B + 1, 0, none⟩ = some (.int .i64 S) := by rw [World.cell?_of_block (a := ⟨B + 1, 0, none⟩) hb1]; exact h.c0
  have k1 : w2.cell? ⟨B + 1, 1, none⟩ = some (.slice ao ls.length cp) := by rw [World.cell?_of_block (a := ⟨B + 1, 1, none⟩) hb1]; exact h.c1
  have k2 : w2.cell? ⟨B + 1, 2, none⟩ = some (.int .i64 P) := by rw [World.cell?_of_block (a := ⟨B + 1, 2, none⟩) hb1]; exact h.c2
  have kf : w2.frozen? ⟨B + 1, 1, none⟩ = false := by rw [World.frozen?_of_block (a := ⟨B + 1, 1, none⟩) hb1]; exact h.f1
  refine ⟨?_, ?_, ?_, ?_, ?_, ?_, ?_, ?_⟩
  · go_simp
  · simp only [List.length_append, List.length_singleton]
    go_simp
  · go_simp
  · go_simp
  · rw [Below.heap_setCell _ _ _ _ (by simp), hb0]; exact h.blk
  · have := hg.size
    simp
    omega
  · have := ownsRow_setCell_below hown (a := ⟨B + 1, 1, none⟩) (by simp) (.slice (some ⟨g, 0, none⟩) (ls.length + 1) cp')
    rw [flat_append]
    simpa using this
  · refine Below.setCell (h.below.grown hg (by omega) (fun k hk => ?_)) (by simp) _
    have := (h.own.lt k hk).1
    omega

theorem CfgAt.after {B : Nat} {w wr w2 : World} {S P : Int} {ao : Option Addr} {cp : Nat} {ls : List (Int × Int)} (h : CfgAt B w wr S P ao cp ls)
    (hg : wr.grownBy w2 (Value.slice ao ls.length cp).ownBlock) : w2.cell? ⟨B + 1, 1, none⟩ = some (.slice ao ls.length cp) ∧ w2.frozen? ⟨B + 1, 1, none⟩ = false := by
  have hb1 := hg.block (B + 1) h.lt (fun e => by have := (h.own.lt _ e.symm).1; omega)
  exact ⟨by rw [World.cell?_of_block (a := ⟨B + 1, 1, none⟩) hb1]; exact h.c1, by rw [World.frozen?_of_block (a := ⟨B + 1, 1, none⟩) hb1]; exact h.f1⟩

theorem CfgAt.result {B : Nat} {w wr : World} {S P : Int} {ao : Option Addr} {cp : Nat} {ls : List (Int × Int)} (h : CfgAt B w wr S P ao cp ls) :
    wr.cell? ⟨B, 0, none⟩ = some (.int .i64 0) ∧ wr.cell? ⟨B, 1, none⟩ = some (.slice none 0 0) ∧ wr.cell? ⟨B, 2, none⟩ = some (.int .i64 0) ∧
      wr.frozen? ⟨B, 0, none⟩ = false ∧ wr.frozen? ⟨B, 1, none⟩ = false ∧ wr.frozen? ⟨B, 2, none⟩ = false := by
  have hb := h.blk
  refine ⟨?_, ?_, ?_, ?_, ?_, ?_⟩
  · simp [World.cell?, hb]
  · simp [World.cell?, hb]
  · simp [World.cell?, hb]
  · simp [World.frozen?, hb]
  · simp [World.frozen?, hb]
  · simp [World.frozen?, hb]

theorem CfgAt.done {B : Nat} {w wr : World} {S P : Int} {g cp : Nat} {ls : List (Int × Int)} (h : CfgAt B w wr S P (some ⟨g, 0, none⟩) cp ls) (x y z : Value) :
    Labs (((wr.setCell ⟨B, 0, none⟩ x).setCell ⟨B, 1, none⟩ y).setCell ⟨B, 2, none⟩ z) g 0 ls ∧ Below B w (((wr.setCell ⟨B, 0, none⟩ x).setCell ⟨B, 1, none⟩ y).setCell ⟨B, 2, none⟩ z) := by
  refine ⟨labs_of_own (base := B + 2) (cp := cp) ?_, ((h.below.setCell (by simp) _).setCell (by simp) _).setCell (by simp) _⟩
  exact ownsRow_setCell_below (ownsRow_setCell_below (ownsRow_setCell_below h.own (by simp) _) (by simp) _) (by simp) _

theorem labs_zero (W : World) (n : Nat) (h : W.heap.size = n) : Labs (W.alloc (.cells #[.int .i64 0, .int .i64 0] 70)) n 0 [(0, 0)] := by
  subst h
  refine ⟨by simp, fun i hi => ?_⟩
  obtain rfl : i = 0 := by simp at hi; omega
  constructor <;> go_simp

theorem ret_cfg {S P : Int} {g cp n m : Nat} (h : m = n) : Ending.returned (.agg #[.int .i64 S, .slice (some ⟨g, 0, none⟩) n cp, .int .i64 P]) = .returned (.agg #[.int .i64 S, .slice (some ⟨g, 0, none⟩) m cp, .int .i64 P]) := by rw [h]

set_option maxRecDepth 100000 in
set_option maxHeartbeats 4000000 in
theorem config_any (s p : Int) (a : Option Addr) (len cap : Nat) (zs : List Int) (w : World) (hs : -9223372036854775808 ≤ s ∧ s ≤ 9223372036854775807) (hp : -9223372036854775808 ≤ p ∧ p ≤ 9223372036854775807) (h : IsInts w a len cap zs) :
    Calls Tryd.prog 14 #[.int .i64 s, .slice a len cap, .int .i64 p] w fun e w' => ∃ g cp : Nat,
      e = .returned (.agg #[.int .i64 (cfgS s), .slice (some ⟨g, 0, none⟩) (cfgLabs zs).length cp, .int .i64 (cfgP p)]) ∧ w.heap.size ≤ g ∧ (cfgLabs zs).length ≤ cp ∧ cp ≤ maxLen ∧ Labs w' g 0 (cfgLabs zs) ∧ Below w.heap.size w w' := by
  obtain ⟨i0, hi, li0, li1, li2⟩ := info_parts labInfo
  have bs := cfgS_bd s
  have bp := cfgP_bd p
  have ps := pk_bd s 3 (by decide)
  have pp := pk_bd p 4 (by decide)
  have es : 1 + pk s 3 = cfgS s := rfl
  have ep : 1 + pk p 4 = cfgP p := rfl
  obtain ⟨hlen, hlc, hmx, hbd, hrow⟩ := id h
  unfold maxLen at hmx
  go_enter Tryd.func14, Tryd.ntmps14
  go_wp2_with (go_at_call 18; refine (picked_any _ _ _ (by assumption) (by decide) (by decide)).mono ?_; rintro e w1 ⟨rfl, rfl⟩)
  clear es ep ps pp
  have hst := cfgAt_start w (cfgS s) (cfgP p)
  obtain ⟨W0, hW0⟩ : ∃ W0 : World, W0 = (w.alloc (.cells #[.int .i64 0, .slice none 0 0, .int .i64 0] 24)).alloc (.cells #[.int .i64 (cfgS s), .slice none 0 0, .int .i64 (cfgP p)] 24) := ⟨_, rfl⟩
  rw [← hW0] at hst ⊢
  clear hW0
  go_loopw [8] (fun i wr => ∃ (k : Nat) (ao : Option Addr) (cp : Nat), k ≤ len ∧ i = .int .i64 k ∧ CfgAt w.heap.size w wr (cfgS s) (cfgP p) ao cp (cfgRow zs k)) (fun i _ => len - (intOf i).toNat)
  case atStart => exact ⟨0, none, 0, Nat.zero_le _, rfl, by rw [cfgRow_zero]; exact hst⟩
  case round =>
    obtain ⟨k, ao, cp, hk, rfl, H⟩ := hrel
    obtain ⟨ls, hls⟩ : ∃ ls, ls = cfgRow zs k := ⟨_, rfl⟩
    rw [← hls] at H
    have hg4 : ls.length ≤ 4 := by rw [hls]; exact (good_row zs k).len
    have HL : Hid (ls = cfgRow zs k) := hls
    clear hls
    have d0 := H.c0
    have d1 := H.c1
    have d2 := H.c2
    by_cases hlt : k < len
    · by_cases h4 : ls.length < 4
      · have h4' : (ls.length : Int) < 4 := by omega
        have hlt' : (k : Int) < (len : Int) := by omega
        obtain ⟨b, off, rfl, hbw, hcell⟩ := hrow (by omega)
        obtain ⟨z, hz⟩ : ∃ z, z = zs.getD k 0 := ⟨_, rfl⟩
        have hzb := hbd k
        have hzc : wr.cell? ⟨b, off + k, none⟩ = some (.int .i64 z) := by
          rw [H.below.cell (p := ⟨b, off + k, none⟩) hbw, hz]; exact hcell k hlt
        rw [← hz] at hzb
        have HZ : Hid (z = zs.getD k 0) := hz
        clear hz
        go_wp2_with (go_at_call 32; refine (lab_any z _ hzb).mono ?_; rintro e w1 ⟨rfl, hb1⟩; have H1 := H.mono hb1; have d1 := H1.c1; have hz1 : w.heap.size + 1 < w1.heap.size := H1.lt)
        obtain ⟨x, hx⟩ : ∃ x, x = labL z := ⟨_, rfl⟩
        obtain ⟨y, hy⟩ : ∃ y, y = labC z := ⟨_, rfl⟩
        rw [← hx, ← hy]
        have HX : Hid (x = labL z) := hx
        have HY : Hid (y = labC z) := hy
        clear hx hy
        have H2 := H1.mono ((Below.refl _ _).alloc (Nat.le_refl _) (.cells #[.int .i64 x, .int .i64 y] 70))
        have q0 : (w1.alloc (.cells #[.int .i64 x, .int .i64 y] 70)).cell? ⟨w1.heap.size, 0, none⟩ = some (.int .i64 x) := by go_simp
        have q1 : (w1.alloc (.cells #[.int .i64 x, .int .i64 y] 70)).cell? ⟨w1.heap.size, 1, none⟩ = some (.int .i64 y) := by go_simp
        have hq : w1.heap.size < (w1.alloc (.cells #[.int .i64 x, .int .i64 y] 70)).heap.size := by simp
        obtain ⟨wo, hwo⟩ : ∃ wo : World, wo = w1.alloc (.cells #[.int .i64 x, .int .i64 y] 70) := ⟨_, rfl⟩
        rw [← hwo] at H2 q0 q1 hq ⊢
        clear hwo H1 H d0 d1 d2 hb1 hzc
        go_loopw [10, 40] (fun t i wr => ∃ j : Nat, j ≤ ls.length ∧ i = .int .i64 j ∧ t = .bool (decide ((x, y) ∈ ls.take j)) ∧ Below wo.heap.size wo wr) (fun _ i _ => ls.length - (intOf i).toNat)
        case atStart => exact ⟨0, Nat.zero_le _, rfl, by simp, Below.refl _ _⟩
        case round =>
          obtain ⟨j, hj, rfl, rfl, hbo⟩ := hrel
          have H3 := H2.mono hbo
          have r0 : wr.cell? ⟨w1.heap.size, 0, none⟩ = some (.int .i64 x) := by rw [hbo.cell (p := ⟨w1.heap.size, 0, none⟩) hq]; exact q0
          have r1 : wr.cell? ⟨w1.heap.size, 1, none⟩ = some (.int .i64 y) := by rw [hbo.cell (p := ⟨w1.heap.size, 1, none⟩) hq]; exact q1
          have hqr : w1.heap.size < wr.heap.size := Nat.lt_of_lt_of_le hq hbo.size
          by_cases hjl : j < ls.length
          · have hjl' : (j : Int) < (ls.length : Int) := by omega
            obtain ⟨g, rfl, hgB, hL⟩ := H3.labs (by omega)
            have hr := hL.2 j hjl
            obtain ⟨u, hu⟩ : ∃ p, p = (ls.getD j (0, 0)).1 := ⟨_, rfl⟩
            obtain ⟨v, hv⟩ : ∃ q, q = (ls.getD j (0, 0)).2 := ⟨_, rfl⟩
            rw [← hu, ← hv, Nat.zero_add] at hr
            obtain ⟨g2, g3⟩ := hr
            have hbn : Below wo.heap.size wo (wr.alloc (.cells #[.int .i64 u, .int .i64 v] 70)) := hbo.alloc hbo.size _
            by_cases hT : (x, y) ∈ ls.take j
            · have hT' : (x, y) ∈ ls.take (j + 1) := List.take_subset_take_left ls (by omega) hT
              clear hu hv
              go_wp2
              go_roundw
              case rel => exact ⟨j + 1, by omega, by go_num, by simp [hT'], hbn⟩
              case measure => simp [intOf]; omega
            · by_cases e1 : u = x
              · by_cases e2 : v = y
                · have hT' : (x, y) ∈ ls.take (j + 1) := by
                    refine mem_of_getD (k := j) (by simp; omega) ?_ ?_
                    · rw [← e1, hu]; simp [List.getD]
                    · rw [← e2, hv]; simp [List.getD]
                  clear hu hv
                  subst e1 e2
                  go_wp2
                  go_roundw
                  case rel => exact ⟨j + 1, by omega, by go_num, by simp [hT'], hbn⟩
                  case measure => simp [intOf]; omega
                · have hn := not_take_succ (p := (x, y)) hjl hT (by rw [← hu, ← hv]; simp; intro _; exact fun h => e2 h.symm)
                  have e3 : (v == y) = false := by simpa using e2
                  clear hu hv
                  subst e1
                  go_wp2
                  go_roundw
                  case rel => exact ⟨j + 1, by omega, by go_num, by simp [hn], hbn⟩
                  case measure => simp [intOf]; omega
              · have hn := not_take_succ (p := (x, y)) hjl hT (by rw [← hu, ← hv]; simp; intro h; exact absurd h.symm e1)
                have e3 : (u == x) = false := by simpa using e1
                clear hu hv
                go_wp2
                go_roundw
                case rel => exact ⟨j + 1, by omega, by go_num, by simp [hn], hbn⟩
                case measure => simp [intOf]; omega
          · have hje : j = ls.length := by omega
            subst hje
            rw [List.take_length]
            by_cases hT : (x, y) ∈ ls
            · have hrow' : cfgRow zs (k + 1) = ls := by
                rw [cfgRow_succ (by omega), ← HL.out, ← HZ.out]
                exact cfgStep_there (by rw [← HX.out, ← HY.out]; exact hT)
              go_wp2
              go_roundw
              case rel => exact ⟨k + 1, ao, cp, by omega, by go_num, by rw [hrow']; exact H3⟩
              case measure => simp [intOf]; omega
            · have hrow' : cfgRow zs (k + 1) = ls ++ [(x, y)] := by
                rw [cfgRow_succ (by omega), ← HL.out, ← HZ.out, cfgStep_new h4 (by rw [← HX.out, ← HY.out]; exact hT), ← HX.out, ← HY.out]
              have d1 := H3.c1
              have f1 := H3.f1
              have hlt3 := H3.lt
              have HA := H3.mono ((Below.refl _ _).alloc (Nat.le_refl _) (.cells #[.int .i64 x, .int .i64 y] 70))
              have hws : w.heap.size + 2 ≤ (wr.alloc (.cells #[.int .i64 x, .int .i64 y] 70)).heap.size := by simp; omega
              go_wp2_with (at_builtin; go_loud (refine wpList_append_own _ rfl _ _ 22 rfl (w.heap.size + 2) 70 i0 (.agg #[.int .i64 0, .int .i64 0]) 2 16 Tryd.underlying22 hi li0 li1 li2 rfl (by decide) _ _ _ rfl HA.own ⟨wr.heap.size, 0, none⟩ 1 1 [.int .i64 x, .int .i64 y] rfl rfl ?c1 ?c2 ?c3 ?c4 hws ?_))
              case c1 => exact cell_two_new wr _ _ _
              case c2 =>
                intro u hu
                simp at hu
                rcases hu with rfl | rfl <;> rfl
              case c3 => unfold maxLen; omega
              case c4 => omega
              intro v' w2 hown' hgrow _
              have hex : ∃ g cp', v' = .slice (some ⟨g, 0, none⟩) (ls.length + 1) cp' := by
                rcases hown'.2 with ⟨_, hn⟩ | ⟨g, cap, cur, hv, _⟩
                · omega
                · exact ⟨g, cap, hv⟩
              obtain ⟨g, cp', hv⟩ := hex
              rw [hv] at hown' ⊢
              have R := HA.push hown' hgrow
              obtain ⟨k1, k2⟩ := HA.after hgrow
              clear hown' hgrow
              go_wp2
              go_roundw
              case rel => exact ⟨k + 1, some ⟨g, 0, none⟩, cp', by omega, by go_num, by rw [hrow']; exact R⟩
              case measure => simp [intOf]; omega
      · have h4' : ¬ (ls.length : Int) < 4 := by omega
        have hnz : ¬ (ls.length : Int) = 0 := by omega
        have hfin : Hid (cfgLabs zs = ls) := by
          show cfgLabs zs = ls
          have e := cfgRow_full (zs := zs) (k := k) (by rw [← HL.out]; omega) (by omega)
          unfold cfgLabs
          rw [e, ← HL.out, if_neg (by intro h; rw [h] at h4; simp at h4)]
        obtain ⟨g, rfl, hgB, hL⟩ := H.labs (by omega)
        obtain ⟨b0, b1, b2, f0, f1, f2⟩ := H.result
        have hroom := H.room
        have hD := H.done (.int .i64 (cfgS s)) (.slice (some ⟨g, 0, none⟩) ls.length cp) (.int .i64 (cfgP p))
        go_wp2
        refine bodyPost_ret (v := .agg #[.int .i64 (cfgS s), .slice (some ⟨g, 0, none⟩) ls.length cp, .int .i64 (cfgP p)]) (by simp [results, Tryd.results14, go_sem, b0, b1, b2]) rfl ⟨g, cp, ret_cfg (by rw [hfin.out]), by omega, by rw [hfin.out]; exact hroom.1, hroom.2, ?_, hD.2⟩
        rw [hfin.out]
        exact hD.1
    · have hke : k = len := by omega
      have hrz : Hid (cfgRow zs zs.length = ls) := by
        show cfgRow zs zs.length = ls
        rw [HL.out, hke, hlen]
      obtain ⟨b0, b1, b2, f0, f1, f2⟩ := H.result
      have hroom := H.room
      subst hke
      by_cases hne : ls.length = 0
      · obtain rfl : ls = [] := List.length_eq_zero_iff.1 hne
        have hfin : Hid (cfgLabs zs = [(0, 0)]) := by
          show cfgLabs zs = [(0, 0)]
          unfold cfgLabs
          rw [hrz.out, if_pos rfl]
        have hF := H.f1
        have hlt3 := H.lt
        have hlt4 : w.heap.size < wr.heap.size := by omega
        have hbl := H.below
        go_wp2
        refine bodyPost_ret (v := .agg #[.int .i64 (cfgS s), .slice (some ⟨wr.heap.size, 0, none⟩) 1 1, .int .i64 (cfgP p)]) (by simp [results, Tryd.results14, go_sem, b0, b1, b2, hlt4]) rfl ⟨wr.heap.size, 1, ret_cfg (by rw [hfin.out]; rfl), by omega, by rw [hfin.out]; simp, by unfold maxLen; omega, ?_, ?_⟩
        · rw [hfin.out]
          exact labs_zero _ _ (by simp)
        · exact ((((hbl.setCell (by simp) _).setCell (by simp) _).setCell (by simp) _).setCell (by simp) _).alloc (by simp; omega) _
      · have hnz : ¬ (ls.length : Int) = 0 := by omega
        have hfin : Hid (cfgLabs zs = ls) := by
          show cfgLabs zs = ls
          unfold cfgLabs
          rw [hrz.out, if_neg (by intro h; rw [h] at hne; simp at hne)]
        obtain ⟨g, rfl, hgB, hL⟩ := H.labs (by omega)
        have hD := H.done (.int .i64 (cfgS s)) (.slice (some ⟨g, 0, none⟩) ls.length cp) (.int .i64 (cfgP p))
        go_wp2
        refine bodyPost_ret (v := .agg #[.int .i64 (cfgS s), .slice (some ⟨g, 0, none⟩) ls.length cp, .int .i64 (cfgP p)]) (by simp [results, Tryd.results14, go_sem, b0, b1, b2]) rfl ⟨g, cp, ret_cfg (by rw [hfin.out]), by omega, by rw [hfin.out]; exact hroom.1, hroom.2, ?_, hD.2⟩
        rw [hfin.out]
        exact hD.1
end Go.Proofs.YtlaagfnoepcnlaaDoor
