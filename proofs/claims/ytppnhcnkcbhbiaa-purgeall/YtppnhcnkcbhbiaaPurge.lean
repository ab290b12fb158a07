/- The contract of label.Purge: the acts that a label sees, in their order, in memory of their own; or the error. -/
import Derived.Test.YtppnhcnkcbhbiaaOwnActs
import Derived.LoopTactic
namespace Go.Proofs.Ytppnhcnkcbhbiaa
open Go.ChangeShapes Go.WideShapes Go.ChangeAt Go.RowKit
set_option linter.unusedVariables false

theorem actInfo : (Try.prog.info? 47).map (fun i => (i.zero, i.size, i.bytes)) = some (some (.agg #[.int .i64 0, .int .i64 0, .int .i64 0, .int .i64 0, .int .i64 0, .slice none 0 0, .int .i64 0, .int .i64 0, .int .i64 0, .int .i64 0, .int .i64 0, .string .empty]), 12, 120) := by kernel_rfl

def purgeErr (s : Int) (ls : List (Int × Int)) (p l : Int) : Int := if cfgFault s ls p = 0 then (if plc l ls.length then 0 else 6) else cfgFault s ls p
def purgeR (s : Int) (ls : List (Int × Int)) (p l : Int) (xs : List AV) : List AV := if purgeErr s ls p l = 0 then purgeF ls l xs else []

theorem keepOf_nums {ls : List (Int × Int)} {l kind : Int} {keep : List Int} (h : Nums keep) : Nums (keepOf ls l kind keep) := by
  intro i
  unfold keepOf
  split
  · by_cases hi : i < keep.length
    · have := h i
      simp only [List.getD, List.getElem?_map, List.getElem?_zipIdx] at this ⊢
      simp [hi] at this ⊢
      split <;> simp_all
    · simp [List.getD, hi]
  · exact h i

theorem news_new {W : World} {n : Nat} (cs : Array Value) (t : TypeId) (h : W.heap.size = n) : ∀ j u, cs.toList[j]? = some u → (W.alloc (.cells cs t)).cell? ((⟨n, 0, none⟩ : Addr).add j) = some u := by
  subst h
  exact World.news_of_block (heap_alloc_new W _)

theorem cells_one (y : AV) : ∀ u ∈ y.cells, u.oneCell' = true := by
  intro u hu
  simp [AV.cells] at hu
  rcases hu with h | h | h | h | h | h | h | h | h | h | h | h <;> subst h <;> rfl

theorem ret_purge {ao : Option Addr} {n m cp : Nat} {e f : Int} (h : n = m) (he : e = f) : Ending.returned (.tuple #[.slice ao n cp, .int .i64 e]) = .returned (.tuple #[.slice ao m cp, .int .i64 f]) := by rw [h, he]

set_option maxHeartbeats 4000000 in
theorem purge_any (s p : Int) (ad : Option Addr) (len cap : Nat) (ls : List (Int × Int)) (l : Int) (aa : Option Addr) (alen acap : Nat) (xs : List AV) (w : World) (h : IsLabs w ad len cap ls) (hx : IsActs w aa alen acap xs)
    (hsz : alen * 120 ≤ 140737488355328) (hks : ∀ i, (xs.getD i default).keep.length * 8 ≤ 140737488355328) :
    Calls Try.prog 13 #[.agg #[.int .i64 s, .slice ad len cap, .int .i64 p], .int .i64 l, .slice aa alen acap] w fun e w' => ∃ (ao : Option Addr) (cp : Nat) (ys : List AV),
      e = .returned (.tuple #[.slice ao ys.length cp, .int .i64 (purgeErr s ls p l)]) ∧ IsActs w' ao ys.length cp ys ∧ ys.map AV.bare = purgeR s ls p l xs ∧ Below w.heap.size w w' := by
  obtain ⟨i0, hi, li0, li1, li2⟩ := info_parts actInfo
  have hmx : len ≤ maxLen := Nat.le_trans h.2.1 h.2.2.1
  have hA : Below w.heap.size w (w.alloc (.cells #[.int .i64 s, .slice ad len cap, .int .i64 p] 25)) := (Below.refl _ _).alloc (Nat.le_refl _) _
  have hno : ∀ w' : World, IsActs w' none ([] : List AV).length 0 [] := fun w' => ⟨rfl, Nat.le_refl _, Nat.zero_le _, fun hh => absurd hh (by simp)⟩
  by_cases hF : cfgFault s ls p = 0
  · cases hl : plc l len with
    | false =>
      have hE : purgeErr s ls p l = 6 := by unfold purgeErr; rw [if_pos hF, h.1, hl]; rfl
      have hR : purgeR s ls p l xs = [] := by unfold purgeR; rw [hE]; rfl
      rw [hE, hR]
      go_enter Try.func13, Try.ntmps13
      go_wp2_with (first
        | (go_at_call 9; refine (check_any s p ad len cap ls _ (h.below hA)).mono ?_; rintro e w1 ⟨rfl, hb1⟩; have hz1 : w.heap.size < w1.heap.size := (by have := hb1.size; simp at this; omega); obtain ⟨hc1, hf1⟩ := bcell hb1)
        | (go_at_call 23; refine (isPlace_any _ _ _ _ _ _ _ hmx).mono ?_; rintro e w2 ⟨rfl, hb2⟩))
      go_ret2
      exact ⟨none, 0, [], rfl, hno _, rfl, hA.trans ((hb1.mono (by simp)).trans (hb2.mono (by omega)))⟩
    | true =>
      have hE : purgeErr s ls p l = 0 := by unfold purgeErr; rw [if_pos hF, h.1, hl]; rfl
      have hR : purgeR s ls p l xs = purgeF ls l xs := by unfold purgeR; rw [hE]; rfl
      rw [hE, hR]
      go_enter Try.func13, Try.ntmps13
      go_wp2_with (first
        | (go_at_call 9; refine (check_any s p ad len cap ls _ (h.below hA)).mono ?_; rintro e w1 ⟨rfl, hb1⟩; have hz1 : w.heap.size < w1.heap.size := (by have := hb1.size; simp at this; omega); obtain ⟨hc1, hf1⟩ := bcell hb1)
        | (go_at_call 23; refine (isPlace_any _ _ _ _ _ _ _ hmx).mono ?_; rintro e w2 ⟨rfl, hb2⟩))
      have hW2 : Below (w.heap.size + 1) (w.alloc (.cells #[.int .i64 s, .slice ad len cap, .int .i64 p] 25)) w2 := (hb1.mono (by simp)).trans (hb2.mono (by omega))
      have hB2 : Below w.heap.size w w2 := hA.trans (hW2.mono (by omega))
      have d0 : w2.cell? ⟨w.heap.size, 0, none⟩ = some (.int .i64 s) := by rw [hW2.cell (p := ⟨w.heap.size, 0, none⟩) (by simp)]; go_simp
      have d1 : w2.cell? ⟨w.heap.size, 1, none⟩ = some (.slice ad len cap) := by rw [hW2.cell (p := ⟨w.heap.size, 1, none⟩) (by simp)]; go_simp
      have d2 : w2.cell? ⟨w.heap.size, 2, none⟩ = some (.int .i64 p) := by rw [hW2.cell (p := ⟨w.heap.size, 2, none⟩) (by simp)]; go_simp
      have z2 : w.heap.size < w2.heap.size := by have := hW2.size; simp at this; omega
      have hL2 := h.below hB2
      have hx2 := hx.below hB2
      clear hb1 hb2 hc1 hf1 hz1 hW2 hA
      go_loopw [9, 23] (fun v i wr => ∃ (k : Nat) (ao : Option Addr) (cp : Nat) (ys : List AV), k ≤ alen ∧ i = .int .i64 k ∧ v = .slice ao ys.length cp ∧ OwnActs wr w2.heap.size (.slice ao ys.length cp) ys ∧ ys.map AV.bare = purgeF ls l (xs.take k) ∧ Below w2.heap.size w2 wr) (fun _ i _ => alen - (intOf i).toNat)
      case atStart => exact ⟨0, none, 0, [], Nat.zero_le _, rfl, rfl, ownActs_nil _ _, by simp [purgeF], Below.refl _ _⟩
      case round =>
        obtain ⟨k, ao, cp, ys, hk, rfl, rfl, hO, hm, hb⟩ := hrel
        have hlx := hx2.1
        have x0 := (hb.cell (p := ⟨w.heap.size, 0, none⟩) z2).trans d0
        have x1 := (hb.cell (p := ⟨w.heap.size, 1, none⟩) z2).trans d1
        have x2 := (hb.cell (p := ⟨w.heap.size, 2, none⟩) z2).trans d2
        have zr : w.heap.size < wr.heap.size := Nat.lt_of_lt_of_le z2 hb.size
        by_cases hlt : k < alen
        · have hlt' : (k : Int) < (alen : Int) := by omega
          obtain ⟨b, off, rfl, hAt⟩ := (hx2.below hb).2.2.2 (by omega)
          obtain ⟨hcells, hints⟩ := hAt.2 k (by omega)
          have hkk := hks k
          have hylen : ys.length ≤ k := by
            have e1 := congrArg List.length hm
            have e2 := purgeF_len ls l (xs.take k)
            simp at e1 e2
            omega
          have hst := purgeF_take (ls := ls) (l := l) (xs := xs) (k := k) (by omega)
          obtain ⟨x, ex⟩ : ∃ x, x = xs.getD k default := ⟨_, rfl⟩
          rw [← ex] at hcells hints hkk hst
          clear ex
          obtain ⟨kind, site, to, label, pick, ka, kl, kc, c0, c1, c2, c3, c4, line, keep⟩ := x
          simp only [] at hints hkk
          have hnums : Nums keep := hints.2.2.2.1
          obtain rfl : kl = keep.length := hints.1.symm
          have a0 := hcells 0 (by decide)
          have a1 := hcells 1 (by decide)
          have a2 := hcells 2 (by decide)
          have a3 := hcells 3 (by decide)
          have a4 := hcells 4 (by decide)
          have a5 := hcells 5 (by decide)
          have a6 := hcells 6 (by decide)
          have a7 := hcells 7 (by decide)
          have a8 := hcells 8 (by decide)
          have a9 := hcells 9 (by decide)
          have a10 := hcells 10 (by decide)
          have a11 := hcells 11 (by decide)
          simp [AV.cells] at a0 a1 a2 a3 a4 a5 a6 a7 a8 a9 a10 a11
          clear hcells
          cases hH : hasLab kind with
          | true =>
            cases hD : hid ls l label with
            | true =>
              have HST : Hid (purgeF ls l (xs.take (k + 1)) = purgeF ls l (xs.take k)) := by
                show purgeF ls l (xs.take (k + 1)) = purgeF ls l (xs.take k)
                rw [hst]; simp [purgeStep, hH, hD]
              clear hst
              go_wp2_with (first
                | (go_at_call 24; refine (hasLabel_any _ _).mono ?_; rintro e u1 ⟨rfl, rfl⟩)
                | (go_at_call 25; refine (hides_any s p ad len cap ls l _ _ ((hL2.below hb).below ((Below.refl _ _).alloc (Nat.le_refl _) _)) hl).mono ?_; rintro e w3 ⟨rfl, hb3⟩))
              have hb4 : Below wr.heap.size wr w3 := ((Below.refl _ _).alloc (Nat.le_refl _) _).trans (hb3.mono (by simp))
              go_roundw
              case rel => exact ⟨k + 1, ao, cp, ys, by omega, by go_num, rfl, hO.below hb4, by rw [HST.out]; exact hm, hb.trans (hb4.mono hb.size)⟩
              case measure => simp [intOf]; omega
            | false =>
              have HST : Hid (purgeF ls l (xs.take (k + 1)) = purgeF ls l (xs.take k) ++ [AV.bare ⟨kind, site, to, label, pick, none, 0, 0, c0, c1, c2, c3, c4, line, keepOf ls l kind keep⟩]) := by
                show _ = _
                rw [hst]; simp [purgeStep, hH, hD, AV.bare]
              clear hst
              have hPK := fun w' h1 h2 => purgeKeep_any s p ad len cap ls l ⟨kind, site, to, label, pick, ka, keep.length, kc, c0, c1, c2, c3, c4, line, keep⟩ w' h1 hl h2 hkk
              simp only [AV.val] at hPK
              go_wp2_with (first
                | (go_at_call 24; refine (hasLabel_any _ _).mono ?_; rintro e u1 ⟨rfl, rfl⟩)
                | (go_at_call 25; refine (hides_any s p ad len cap ls l _ _ ((hL2.below hb).below ((Below.refl _ _).alloc (Nat.le_refl _) _)) hl).mono ?_; rintro e w3 ⟨rfl, hb3⟩
                   have hV : Below wr.heap.size wr w3 := ((Below.refl _ _).alloc (Nat.le_refl _) _).trans (hb3.mono (by simp))
                   have z3 : wr.heap.size < w3.heap.size := by have := hb3.size; simp at this; omega
                   have y3 : w.heap.size < w3.heap.size := by omega
                   obtain ⟨hc3, hf3⟩ := bcell hb3)
                | (go_at_call 26; refine (hPK _ ((hL2.below hb).below hV) (hints.below hV)).mono ?_; rintro e w4 ⟨vk, rfl, hok, hb4⟩
                   obtain ⟨ko, kcp, hvk, hr1, hr2⟩ := own_form hok
                   subst hvk
                   have z4 : wr.heap.size < w4.heap.size := by have := hb4.size; omega
                   have y4 : w.heap.size < w4.heap.size := by omega
                   obtain ⟨hc4, hf4⟩ := bcell hb4
                   have hB4 : Below wr.heap.size wr w4 := hV.trans (hb4.mono (by omega))
                   have hOs := hO.setNew hB4 (a := ⟨wr.heap.size, 5, none⟩) (Nat.le_refl _) (.slice ko keep.length kcp)
                   have hz5 : (w4.setCell ⟨wr.heap.size, 5, none⟩ (.slice ko keep.length kcp)).heap.size = w4.heap.size := by simp
                   have hbase : w2.heap.size ≤ (w4.setCell ⟨wr.heap.size, 5, none⟩ (.slice ko keep.length kcp)).heap.size := by have := hb.size; rw [hz5]; omega)
                | (at_builtin; refine wpList_append_own _ rfl _ _ 37 rfl w2.heap.size 47 i0 (.agg #[.int .i64 0, .int .i64 0, .int .i64 0, .int .i64 0, .int .i64 0, .slice none 0 0, .int .i64 0, .int .i64 0, .int .i64 0, .int .i64 0, .int .i64 0, .string .empty]) 12 120 Try.underlying37 hi li0 li1 li2 rfl (by decide) (.slice ao ys.length cp) ys.length (flatActs ys) rfl (hOs.row.alloc _) ⟨w4.heap.size, 0, none⟩ 1 1 (AV.cells ⟨kind, site, to, label, pick, ko, keep.length, kcp, c0, c1, c2, c3, c4, line, keepOf ls l kind keep⟩) rfl rfl (news_new #[.int .i64 kind, .int .i64 site, .int .i64 to, .int .i64 label, .int .i64 pick, .slice ko keep.length kcp, .int .i64 c0, .int .i64 c1, .int .i64 c2, .int .i64 c3, .int .i64 c4, .string line] _ hz5) (cells_one _) (by unfold maxLen; omega) (by omega) (by simp; omega) ?_))
              intro v' w5 hown hgrow _
              obtain ⟨g, cp', hv', hg1, hg2⟩ := World.ownsRow.form hown (by omega)
              rw [hv'] at hown ⊢
              have hkr : ((w4.setCell ⟨wr.heap.size, 5, none⟩ (.slice ko keep.length kcp)).alloc (.cells #[.int .i64 kind, .int .i64 site, .int .i64 to, .int .i64 label, .int .i64 pick, .slice ko keep.length kcp, .int .i64 c0, .int .i64 c1, .int .i64 c2, .int .i64 c3, .int .i64 c4, .string line] 47)).ownsRow w2.heap.size 3 1 (.slice ko keep.length kcp) keep.length ((keepOf ls l kind keep).map (Value.int .i64)) := by
                have h1 := own_base hok (c := w2.heap.size) (by have := hb.size; omega)
                refine (ownsRow_setCell_other h1 (fun he => ?_) _).alloc _
                have : w3.heap.size ≤ wr.heap.size := (hok.lt _ he).1
                omega
              have R := hOs.push (w1 := (w4.setCell ⟨wr.heap.size, 5, none⟩ (.slice ko keep.length kcp)).alloc (.cells #[.int .i64 kind, .int .i64 site, .int .i64 to, .int .i64 label, .int .i64 pick, .slice ko keep.length kcp, .int .i64 c0, .int .i64 c1, .int .i64 c2, .int .i64 c3, .int .i64 c4, .string line] 47)) (y := ⟨kind, site, to, label, pick, ko, keep.length, kcp, c0, c1, c2, c3, c4, line, keepOf ls l kind keep⟩) ((Below.refl _ _).alloc (Nat.le_refl _) _) hkr (keepOf_nums hnums) hown hgrow
              have hB5 : Below w2.heap.size w2 w5 := by
                refine Below.grown (((hb.trans (hB4.mono hb.size)).setCell (by have := hb.size; show w2.heap.size ≤ wr.heap.size; omega) _).alloc hbase _) hgrow (by simp; omega) (fun m hm' => ?_)
                exact (hO.row.lt m hm').1
              clear hown hgrow hkr
              go_wp2
              go_roundw
              case rel =>
                refine ⟨k + 1, some ⟨g, 0, none⟩, cp', ys ++ [⟨kind, site, to, label, pick, ko, keep.length, kcp, c0, c1, c2, c3, c4, line, keepOf ls l kind keep⟩], by omega, by go_num, by simp, by simpa using R, ?_, hB5⟩
                rw [List.map_append, hm, HST.out]
                rfl
              case measure => simp [intOf]; omega
          | false =>
            have HST : Hid (purgeF ls l (xs.take (k + 1)) = purgeF ls l (xs.take k) ++ [AV.bare ⟨kind, site, to, label, pick, none, 0, 0, c0, c1, c2, c3, c4, line, keepOf ls l kind keep⟩]) := by
              show _ = _
              rw [hst]; simp [purgeStep, hH, AV.bare]
            clear hst
            have hPK := fun w' h1 h2 => purgeKeep_any s p ad len cap ls l ⟨kind, site, to, label, pick, ka, keep.length, kc, c0, c1, c2, c3, c4, line, keep⟩ w' h1 hl h2 hkk
            simp only [AV.val] at hPK
            go_wp2_with (first
              | (go_at_call 24; refine (hasLabel_any _ _).mono ?_; rintro e u1 ⟨rfl, rfl⟩)
              | (go_at_call 26; refine (hPK _ ((hL2.below hb).below ((Below.refl wr.heap.size wr).alloc (Nat.le_refl _) _)) (hints.below ((Below.refl wr.heap.size wr).alloc (Nat.le_refl _) _))).mono ?_; rintro e w4 ⟨vk, rfl, hok, hb4⟩
                 obtain ⟨ko, kcp, hvk, hr1, hr2⟩ := own_form hok
                 subst hvk
                 have z4 : wr.heap.size < w4.heap.size := by have := hb4.size; simp at this; omega
                 have y4 : w.heap.size < w4.heap.size := by omega
                 obtain ⟨hc4, hf4⟩ := bcell hb4
                 have hB4 : Below wr.heap.size wr w4 := ((Below.refl wr.heap.size wr).alloc (Nat.le_refl _) _).trans (hb4.mono (by simp))
                 have hOs := hO.setNew hB4 (a := ⟨wr.heap.size, 5, none⟩) (Nat.le_refl _) (.slice ko keep.length kcp)
                 have hz5 : (w4.setCell ⟨wr.heap.size, 5, none⟩ (.slice ko keep.length kcp)).heap.size = w4.heap.size := by simp
                 have hbase : w2.heap.size ≤ (w4.setCell ⟨wr.heap.size, 5, none⟩ (.slice ko keep.length kcp)).heap.size := by have := hb.size; rw [hz5]; omega)
              | (at_builtin; refine wpList_append_own _ rfl _ _ 37 rfl w2.heap.size 47 i0 (.agg #[.int .i64 0, .int .i64 0, .int .i64 0, .int .i64 0, .int .i64 0, .slice none 0 0, .int .i64 0, .int .i64 0, .int .i64 0, .int .i64 0, .int .i64 0, .string .empty]) 12 120 Try.underlying37 hi li0 li1 li2 rfl (by decide) (.slice ao ys.length cp) ys.length (flatActs ys) rfl (hOs.row.alloc _) ⟨w4.heap.size, 0, none⟩ 1 1 (AV.cells ⟨kind, site, to, label, pick, ko, keep.length, kcp, c0, c1, c2, c3, c4, line, keepOf ls l kind keep⟩) rfl rfl (news_new #[.int .i64 kind, .int .i64 site, .int .i64 to, .int .i64 label, .int .i64 pick, .slice ko keep.length kcp, .int .i64 c0, .int .i64 c1, .int .i64 c2, .int .i64 c3, .int .i64 c4, .string line] _ hz5) (cells_one _) (by unfold maxLen; omega) (by omega) (by simp; omega) ?_))
            intro v' w5 hown hgrow _
            obtain ⟨g, cp', hv', hg1, hg2⟩ := World.ownsRow.form hown (by omega)
            rw [hv'] at hown ⊢
            have hkr : ((w4.setCell ⟨wr.heap.size, 5, none⟩ (.slice ko keep.length kcp)).alloc (.cells #[.int .i64 kind, .int .i64 site, .int .i64 to, .int .i64 label, .int .i64 pick, .slice ko keep.length kcp, .int .i64 c0, .int .i64 c1, .int .i64 c2, .int .i64 c3, .int .i64 c4, .string line] 47)).ownsRow w2.heap.size 3 1 (.slice ko keep.length kcp) keep.length ((keepOf ls l kind keep).map (Value.int .i64)) := by
              have h1 := own_base hok (c := w2.heap.size) (by have := hb.size; simp; omega)
              refine (ownsRow_setCell_other h1 (fun he => ?_) _).alloc _
              have h2 := (hok.lt _ he).1
              have h3 : wr.heap.size + 1 ≤ wr.heap.size := by simpa only [World.size_alloc] using h2
              omega
            have R := hOs.push (w1 := (w4.setCell ⟨wr.heap.size, 5, none⟩ (.slice ko keep.length kcp)).alloc (.cells #[.int .i64 kind, .int .i64 site, .int .i64 to, .int .i64 label, .int .i64 pick, .slice ko keep.length kcp, .int .i64 c0, .int .i64 c1, .int .i64 c2, .int .i64 c3, .int .i64 c4, .string line] 47)) (y := ⟨kind, site, to, label, pick, ko, keep.length, kcp, c0, c1, c2, c3, c4, line, keepOf ls l kind keep⟩) ((Below.refl _ _).alloc (Nat.le_refl _) _) hkr (keepOf_nums hnums) hown hgrow
            have hB5 : Below w2.heap.size w2 w5 := by
              refine Below.grown (((hb.trans (hB4.mono hb.size)).setCell (by have := hb.size; show w2.heap.size ≤ wr.heap.size; omega) _).alloc hbase _) hgrow (by simp; omega) (fun m hm' => ?_)
              exact (hO.row.lt m hm').1
            clear hown hgrow hkr
            go_wp2
            go_roundw
            case rel =>
              refine ⟨k + 1, some ⟨g, 0, none⟩, cp', ys ++ [⟨kind, site, to, label, pick, ko, keep.length, kcp, c0, c1, c2, c3, c4, line, keepOf ls l kind keep⟩], by omega, by go_num, by simp, by simpa using R, ?_, hB5⟩
              rw [List.map_append, hm, HST.out]
              rfl
            case measure => simp [intOf]; omega
        · have hke : k = alen := by omega
          have HE : Hid (purgeF ls l (xs.take k) = purgeF ls l xs) := by
            show _ = _
            rw [hke, ← hlx, List.take_length]
          go_wp2
          go_ret2
          exact ⟨ao, cp, ys, rfl, hO.isActs.2, by rw [← HE.out]; exact hm, hB2.trans (hb.mono hB2.size)⟩
  · have hE : purgeErr s ls p l = cfgFault s ls p := by unfold purgeErr; rw [if_neg hF]
    have hR : purgeR s ls p l xs = [] := by unfold purgeR; rw [hE, if_neg hF]
    rw [hE, hR]
    go_enter Try.func13, Try.ntmps13
    go_wp2_with (go_at_call 9; refine (check_any s p ad len cap ls _ (h.below hA)).mono ?_; rintro e w1 ⟨rfl, hb1⟩)
    go_ret2
    exact ⟨none, 0, [], rfl, hno _, rfl, hA.trans (hb1.mono (by simp))⟩
end Go.Proofs.Ytppnhcnkcbhbiaa
